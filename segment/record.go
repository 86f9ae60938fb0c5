package segment

import (
	"carillon/api"
	"carillon/codec"
)

// great is the greatest number of a record.
const great = 1<<53 - 1

// shape is that of a record's code: Offset, Producer, Seq, Key, Value.
const shape = "ltltt"

func isNumber(n int) bool {
	return 0 <= n && n <= great
}

// itemsOf tells the items of a right record's code.
func itemsOf(r api.Record) []api.Item {
	return []api.Item{
		{Kind: api.ILong, N: uint64(r.Offset)},
		{Kind: api.IText, S: r.Producer},
		{Kind: api.ILong, N: uint64(r.Seq)},
		{Kind: api.IText, S: r.Key},
		{Kind: api.IText, S: r.Value},
	}
}

// recordOf tells the right record whose code the body is; false, if it is none's.
func recordOf(body string) (api.Record, bool) {
	l, fault := codec.Decode(shape, body)
	if fault != api.OK {
		return api.Record{}, false
	}
	r := api.Record{
		// A long that is past all numbers of its kind is below 0 then, and so not right either.
		Offset:   int(l[0].N),
		Producer: l[1].S,
		Seq:      int(l[2].N),
		Key:      l[3].S,
		Value:    l[4].S,
	}
	return r, Right(r)
}
