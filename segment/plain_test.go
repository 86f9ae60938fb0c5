package segment_test

import (
	"encoding/binary"
	"hash/crc32"
	"math"
	"slices"
	"strings"
	"testing"

	"carillon/api"
	"carillon/segment"
)

// great is 2^53 - 1.
const great = 9007199254740991

func long(n uint64) string        { return string(binary.BigEndian.AppendUint64(nil, n)) }
func word(n uint32) string        { return string(binary.BigEndian.AppendUint32(nil, n)) }
func text(s string) string        { return word(uint32(len(s))) + s }
func rec(n int) api.Record        { return api.Record{Offset: n, Producer: "p", Seq: n, Key: "k", Value: "v"} }
func size(s string, n int) string { return strings.Repeat(s, n) }

// code is that of a record as the chapter tells it, right or not.
func code(r api.Record) string {
	return long(uint64(r.Offset)) + text(r.Producer) + long(uint64(r.Seq)) + text(r.Key) + text(r.Value)
}

// framed is a frame as chapter 2 tells it.
func framed(body string) string {
	length := word(uint32(len(body)))
	return length + word(crc32.Checksum([]byte(length+body), crc32.MakeTable(crc32.Castagnoli))) + body
}

// plain is a record's bytes as the chapters tell them, right or not.
func plain(r api.Record) string { return framed(code(r)) }

// laid are the records' bytes, one behind the other, and where each begins; at the end, where the last one ends.
func laid(l []api.Record) (s string, places []int) {
	var b strings.Builder
	for _, r := range l {
		places = append(places, b.Len())
		b.WriteString(plain(r))
	}
	return b.String(), append(places, b.Len())
}

// recs are records of these offsets.
func recs(offsets ...int) []api.Record {
	var l []api.Record
	for _, n := range offsets {
		l = append(l, rec(n))
	}
	return l
}

func isRight(r api.Record) bool {
	return r.Offset >= 0 && r.Offset <= great && r.Seq >= 0 && r.Seq <= great && len(r.Producer) <= 20 && len(r.Key) <= 100 && len(r.Value) <= 1000
}

// edges are right records, each of them at an edge of what is right.
func edges() []api.Record {
	return []api.Record{
		{},
		rec(0),
		rec(1),
		{Offset: great},
		{Seq: great},
		{Offset: great, Seq: great},
		{Producer: size("p", 20)},
		{Producer: "\x00\xff é."},
		{Key: size("k", 100)},
		{Key: "\x00"},
		{Value: size("v", 1000)},
		{Value: "\xff\xfe\n"},
		{Offset: great, Producer: size("\xff", 20), Seq: great, Key: size("\x00", 100), Value: size("\xff", 1000)},
		{Offset: 1 << 32, Seq: 1 << 31},
		{Value: plain(rec(7))},
	}
}

// wrong are records that are not right, each in one of its parts.
func wrong() []api.Record {
	var l []api.Record
	for _, n := range []int{-1, -2, math.MinInt, math.MinInt + 1, great + 1, great + 2, 1 << 62, math.MaxInt} {
		offset, seq := rec(3), rec(3)
		offset.Offset, seq.Seq = n, n
		l = append(l, offset, seq)
	}
	for _, more := range []int{1, 2, 100000} {
		producer, key, value := rec(3), rec(3), rec(3)
		producer.Producer, key.Key, value.Value = size("p", 20+more), size("k", 100+more), size("v", 1000+more)
		l = append(l, producer, key, value)
	}
	return l
}

// brief keeps a failure's lines short.
func brief(l []api.Record) []int {
	var out []int
	for _, r := range l[:min(len(l), 10)] {
		out = append(out, r.Offset)
	}
	return out
}

func wantScan(t *testing.T, name string, base int, s string, want []api.Record, good int, fault api.Errno) {
	t.Helper()
	if l, n, e := segment.Scan(base, s); !slices.Equal(l, want) || n != good || e != fault {
		t.Errorf("%s: Scan(%d, %d bytes): %d records %d, %d, %d; want %d records %d, %d, %d", name, base, len(s), len(l), brief(l), n, e, len(want), brief(want), good, fault)
	}
}

func wantIndex(t *testing.T, base int, s string, every int, want ...api.Entry) {
	t.Helper()
	if l, e := segment.Index(base, s, every); !slices.Equal(l, want) || e != api.OK {
		t.Errorf("Index(%d, %d bytes, %d): %v, %d; want %v", base, len(s), every, l, e, want)
	}
}

func wantFrom(t *testing.T, base int, s string, index []api.Entry, offset, most int, want []api.Record) {
	t.Helper()
	if l := segment.From(base, s, index, offset, most); !slices.Equal(l, want) {
		t.Errorf("From(%d, %d bytes, %v, %d, %d): %d records %d; want %d records %d", base, len(s), index, offset, most, len(l), brief(l), len(want), brief(want))
	}
}

// cut takes from s a number of n bytes; false, if it is not all there.
func cut(s *string, n int) (uint64, bool) {
	if len(*s) < n {
		return 0, false
	}
	var out uint64
	for _, b := range []byte((*s)[:n]) {
		out = out<<8 | uint64(b)
	}
	*s = (*s)[n:]
	return out, true
}

// cutText takes from s a text of at most so many bytes.
func cutText(s *string, most int) (string, bool) {
	n, ok := cut(s, 4)
	if !ok || n > uint64(most) || n > uint64(len(*s)) {
		return "", false
	}
	out := (*s)[:n]
	*s = (*s)[n:]
	return out, true
}

// plainRecord is the right record that a body is.
func plainRecord(body string) (r api.Record, ok bool) {
	offset, a := cut(&body, 8)
	producer, b := cutText(&body, 20)
	seq, c := cut(&body, 8)
	key, d := cutText(&body, 100)
	value, e := cutText(&body, 1000)
	if !(a && b && c && d && e) || body != "" || offset > great || seq > great {
		return api.Record{}, false
	}
	return api.Record{Offset: int(offset), Producer: producer, Seq: int(seq), Key: key, Value: value}, true
}

// plainScan is Scan as the chapters tell it, and where each record begins.
func plainScan(base int, s string) (l []api.Record, places []int, good int, fault api.Errno) {
	for at := 0; at < len(s); {
		rest := s[at:]
		if len(rest) < 4 {
			return l, places, at, api.ErrShort
		}
		length := int(binary.BigEndian.Uint32([]byte(rest)))
		if length > api.MaxFrame {
			return l, places, at, api.ErrLong
		}
		if len(rest) < 8+length {
			return l, places, at, api.ErrShort
		}
		body := rest[8 : 8+length]
		if framed(body) != rest[:8+length] {
			return l, places, at, api.ErrSum
		}
		r, ok := plainRecord(body)
		if !ok {
			return l, places, at, api.ErrForm
		}
		if r.Offset < base || len(l) > 0 && r.Offset <= l[len(l)-1].Offset {
			return l, places, at, api.ErrOrder
		}
		l, places = append(l, r), append(places, at)
		at += 8 + length
	}
	return l, places, len(s), api.OK
}

// plainFind is Find as the chapter tells it.
func plainFind(index []api.Entry, offset int) int {
	pos := 0
	for _, e := range index {
		if e.Offset <= offset {
			pos = e.Pos
		}
	}
	return pos
}

// plainFrom is From of an index of base and s as the chapter tells it.
func plainFrom(base int, s string, index []api.Entry, offset, most int) []api.Record {
	var out []api.Record
	l, places, _, _ := plainScan(base, s)
	for i, r := range l {
		if places[i] >= plainFind(index, offset) && r.Offset >= offset && len(out) < most {
			out = append(out, r)
		}
	}
	return out
}
