package segment_test

import (
	"math"
	"slices"
	"sync"
	"testing"
	"unsafe"

	"carillon/api"
	"carillon/segment"
)

// walk are n right records whose offsets rise, of many sizes, without a random source.
func walk(seed uint32, n int) []api.Record {
	next := func(below int) int {
		seed = seed*1664525 + 1013904223
		return int(seed>>8) % below
	}
	word := func(most int) string {
		b := make([]byte, next(most+1))
		for i := range b {
			b[i] = byte(next(256))
		}
		return string(b)
	}
	var l []api.Record
	offset := next(4)
	for range n {
		l = append(l, api.Record{Offset: offset, Producer: word(20), Seq: next(1 << 24), Key: word(next(101)), Value: word(next(60))})
		offset += 1 + next(3)*next(50)
	}
	return l
}

// rising are lists of records that rise.
func rising() [][]api.Record {
	top := edges()[12]
	out := [][]api.Record{nil, recs(0), recs(great), recs(3, 5, 6), recs(0, 1, 2, 3, 4), {{}, {Offset: 1, Value: plain(rec(0))}, {Offset: 2, Key: size("k", 100)}, top}}
	for seed := range uint32(6) {
		out = append(out, walk(seed, int(seed)*3))
	}
	return out
}

// byOne are the records' bytes as One tells them, and where each begins.
func byOne(t *testing.T, l []api.Record) (s string, places []int) {
	t.Helper()
	for _, r := range l {
		one, e := segment.One(r)
		if e != api.OK {
			t.Fatal(e)
		}
		places = append(places, len(s))
		s += one
	}
	return s, append(places, len(s))
}

// P6.4: Scan of records that rise are the records.
func TestThereAndBack(t *testing.T) {
	for _, l := range append(rising(), walk(99, 3000)) {
		s, _ := byOne(t, l)
		wantScan(t, "all", 0, s, l, len(s), api.OK)
		if len(l) > 0 {
			wantScan(t, "from the first one's Offset", l[0].Offset, s, l, len(s), api.OK)
			wantScan(t, "from one above it", l[0].Offset+1, s, nil, 0, api.ErrOrder)
		}
	}
}

// P6.4: of each beginning those that are all there, and ErrShort within one; Index and From tell of the same ones.
func TestEachBeginning(t *testing.T) {
	for _, l := range rising() {
		s, places := byOne(t, l)
		whole := 0
		for at := 0; at <= len(s); at++ {
			if whole < len(l) && places[whole+1] == at {
				whole++
			}
			fault := api.OK
			if at > places[whole] {
				fault = api.ErrShort
			}
			wantScan(t, "a beginning", 0, s[:at], l[:whole], places[whole], fault)
			if at%7 == 0 {
				wantIndex(t, 0, s[:at], 1, entries(l[:whole], places, 1)...)
				wantFrom(t, 0, s[:at], entries(l[:whole], places, 2), 2, 2, plainFrom(0, s[:at], nil, 2, 2))
			}
		}
	}
}

// entries are those of an index of the records that begin at these places.
func entries(l []api.Record, places []int, every int) []api.Entry {
	var out []api.Entry
	for i := 0; i < len(l); i += every {
		out = append(out, api.Entry{Offset: l[i].Offset, Pos: places[i]})
	}
	return out
}

// P6.4: From by an index tells the same as by none; by the index of a beginning too.
func TestFromByAnIndexAndByNone(t *testing.T) {
	for _, l := range rising() {
		s, places := byOne(t, l)
		for _, every := range []int{1, 2, 3, 7, len(l) + 1} {
			index, e := segment.Index(0, s, every)
			if want := entries(l, places, every); !slices.Equal(index, want) || e != api.OK {
				t.Errorf("Index: %v, %d; want %v", index, e, want)
			}
			for _, r := range append(l, rec(0), rec(great)) {
				for offset := r.Offset - 1; offset <= r.Offset+1; offset++ {
					for _, most := range []int{0, 1, 2, math.MaxInt} {
						want := plainFrom(0, s, nil, offset, most)
						wantFrom(t, 0, s, nil, offset, most, want)
						wantFrom(t, 0, s, index, offset, most, want)
						wantFrom(t, 0, s, index[:len(index)/2], offset, most, want)
					}
				}
			}
		}
	}
}

// P6.4: with one bit turned, Scan tells no other records than those ahead of it.
func TestOneBitTurned(t *testing.T) {
	l := recs(3, 5, 6)
	s, places := byOne(t, l)
	for bit := range 8 * len(s) {
		b := []byte(s)
		b[bit/8] ^= 1 << (bit % 8)
		whole := 0
		for places[whole+1] <= bit/8 {
			whole++
		}
		got, good, e := segment.Scan(0, string(b))
		if !slices.Equal(got, l[:whole]) || good != places[whole] || e == api.OK || e == api.ErrForm || e == api.ErrOrder {
			t.Errorf("bit %d: %d, %d, %d", bit, brief(got), good, e)
		}
	}
}

// P3: an answer's list is new memory, spare room too.
func TestListsAreNewMemory(t *testing.T) {
	s, _ := laid(recs(3, 5, 6))
	for _, tail := range []string{"", "\x00"} {
		l, _, _ := segment.Scan(0, s+tail)
		spoil(l, api.Record{Offset: -1})
		index, _ := segment.Index(0, s+tail, 1)
		from := segment.From(0, s+tail, index, 5, 2)
		spoil(from, api.Record{Offset: -2})
		spoil(index, api.Entry{Offset: -3, Pos: -3})
		wantScan(t, "again", 0, s+tail, recs(3, 5, 6), len(s), map[bool]api.Errno{true: api.OK, false: api.ErrShort}[tail == ""])
		wantIndex(t, 0, s+tail, 1, wantEntries(s)...)
		wantFrom(t, 0, s+tail, nil, 5, 2, recs(5, 6))
	}
}

// spoil writes over a list and its spare room.
func spoil[T any](l []T, x T) {
	l = l[:cap(l)]
	for i := range l {
		l[i] = x
	}
}

// P3: what is handed in is neither kept nor written into, nor is what stands behind it in its array.
func TestNothingHandedInIsKept(t *testing.T) {
	want := []api.Record{{Offset: 3, Producer: "pp", Seq: 1, Key: "kk", Value: "vv"}, {Offset: 5, Producer: "qq", Key: "ll", Value: "ww"}}
	made, _ := laid(want)
	b := []byte(made)
	s := unsafe.String(unsafe.SliceData(b), len(b))
	room := []api.Entry{{Offset: 0, Pos: 0}, {Offset: 77, Pos: 78}, {Offset: 79, Pos: 80}}
	l, _, _ := segment.Scan(0, s)
	index, _ := segment.Index(0, s, 1)
	from := segment.From(0, s, room[:1], 0, 9)
	if string(b) != made || room[0] != (api.Entry{}) || room[1] != (api.Entry{Offset: 77, Pos: 78}) || room[2] != (api.Entry{Offset: 79, Pos: 80}) {
		t.Error("written into:", room)
	}
	for i := range b {
		b[i] = '!'
	}
	if !slices.Equal(l, want) || !slices.Equal(from, want) || !slices.Equal(index, wantEntries(made)) {
		t.Error(l, from, index)
	}
}

// P3: the bytes of a record's texts are not those that were handed in to One.
func TestOneIsNewMemory(t *testing.T) {
	b := []byte("abc")
	lent := unsafe.String(unsafe.SliceData(b), len(b))
	s, _ := segment.One(api.Record{Producer: lent, Key: lent, Value: lent})
	copy(b, "xyz")
	if s != plain(api.Record{Producer: "abc", Key: "abc", Value: "abc"}) {
		t.Errorf("%q", s)
	}
}

// P4: the same arguments, the same answer, whatever is asked beside it.
func TestAnswersHangOnArgumentsAlone(t *testing.T) {
	l := walk(5, 40)
	s, _ := laid(l)
	index, _ := segment.Index(0, s, 3)
	var all sync.WaitGroup
	for range 8 {
		all.Go(func() {
			for i := range 20 {
				wantScan(t, "beside others", 0, s, l, len(s), api.OK)
				wantScan(t, "a beginning", 0, s[:len(s)-1], l[:39], len(s)-len(plain(l[39])), api.ErrShort)
				wantFrom(t, 0, s, index, l[i].Offset, 5, l[i:i+5])
			}
		})
	}
	all.Wait()
}

// P1: each call ends, and none panics, at all arguments.
func TestAllArguments(t *testing.T) {
	numbers := []int{math.MinInt, math.MinInt + 1, -1, 0, 1, 2, 5, great, great + 1, math.MaxInt - 1, math.MaxInt}
	s, _ := laid(recs(0, 1, 2, 5, great))
	texts := []string{"", s, s[1:], s[:len(s)-1], s + s, "left over", size("\x00", 100)}
	for _, base := range numbers {
		for _, text := range texts {
			l, places, good, fault := plainScan(base, text)
			wantScan(t, "all arguments", base, text, l, good, fault)
			for _, n := range numbers {
				index, e := segment.Index(base, text, n)
				if (e == api.ErrArg) != (n < 1) || n > 0 && len(index) != len(entries(l, places, n)) {
					t.Errorf("Index(%d, %q, %d): %v, %d", base, text, n, index, e)
				}
				for _, most := range numbers {
					wantFrom(t, base, text, index, n, most, plainFrom(base, text, nil, n, most))
				}
			}
		}
	}
}

// P1, P6.1 to P6.4: bytes of all kinds, held against a plain reader; what is told makes the bytes that it was read from.
func FuzzScan(f *testing.F) {
	s, _ := laid(recs(3, 5, 6))
	f.Add(0, "", 1, 0, 0)
	f.Add(0, s, 2, 5, 1)
	f.Add(4, s, 1, 6, 9)
	f.Add(0, s+plain(rec(2)), 1, 5, 2)
	f.Add(0, plain(rec(-1))+s, 1, 0, 2)
	f.Add(0, plain(edges()[12])+"\x00\x00", 3, great, 1)
	f.Fuzz(func(t *testing.T, base int, s string, every, offset, most int) {
		hold(t, base, s, every, offset, most)
		hold(t, base, framed(s), every, offset, most)
	})
}

func hold(t *testing.T, base int, s string, every, offset, most int) {
	t.Helper()
	l, places, good, fault := plainScan(base, s)
	wantScan(t, "fuzzed", base, s, l, good, fault)
	if made, _ := byOne(t, l); made != s[:good] {
		t.Errorf("%q; want %q", made, s[:good])
	}
	if every < 1 {
		every = 1
	}
	index, _ := segment.Index(base, s, every)
	if want := entries(l, places, every); !slices.Equal(index, want) {
		t.Errorf("Index: %v; want %v", index, want)
	}
	want := plainFrom(base, s, nil, offset, most)
	wantFrom(t, base, s, nil, offset, most, want)
	wantFrom(t, base, s, index, offset, most, want)
}
