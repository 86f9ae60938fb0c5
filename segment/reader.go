package segment

import (
	"carillon/api"
	"carillon/crc"
)

// read is what was read of a text.
type read struct {
	records []api.Record // those that are kept
	begins  []int        // where the frame of each begins
	end     int          // where the frame of the last one ends, kept or not
	fault   api.Errno    // why what stands there is no record; OK, if nothing does, or nobody asks
}

// reader goes over a text, record by record.
type reader struct {
	read
	text  string
	least int // the least Offset that the next record may have
	from  int // records whose Offset is below it are not kept
	most  int // how many are kept
}

// readerOf is a reader that keeps all records: there are no more than bytes, and no Offset is below 0.
func readerOf(base int, s string) reader {
	return reader{text: s, least: base, most: len(s)}
}

// goOn reads till the text ends, or what stands there is no record, or enough are kept. Each record takes a frame's bytes, so it ends.
func (r *reader) goOn() {
	var record api.Record
	var size int

next:
	if r.end == len(r.text) || len(r.records) >= r.most {
		return
	}
	record, size, r.fault = first(r.text[r.end:], r.least)
	if r.fault != api.OK {
		return
	}
	if record.Offset >= r.from {
		r.records = append(r.records, record)
		r.begins = append(r.begins, r.end)
	}
	r.least = record.Offset + 1
	r.end += size
	goto next
}

// first reads the record with which s begins, whose Offset must be least or more, and tells how many bytes it has.
func first(s string, least int) (api.Record, int, api.Errno) {
	body, size, fault := crc.Take(s)
	if fault != api.OK {
		return api.Record{}, 0, fault
	}
	record, ok := recordOf(body)
	if !ok {
		return api.Record{}, 0, api.ErrForm
	}
	if record.Offset < least {
		return api.Record{}, 0, api.ErrOrder
	}
	return record, size, api.OK
}
