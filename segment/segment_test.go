package segment_test

import (
	"encoding/hex"
	"math"
	"slices"
	"testing"

	"carillon/api"
	"carillon/segment"
)

// P6.1: what is right, at its edges, and what is not, in each of its parts.
func TestRight(t *testing.T) {
	for i, r := range edges() {
		if !segment.Right(r) {
			t.Errorf("edge %d: not right", i)
		}
	}
	for i, r := range wrong() {
		if segment.Right(r) {
			t.Errorf("wrong %d: right", i)
		}
	}
}

// P6.1: the bytes of a record.
func TestOne(t *testing.T) {
	r := api.Record{Offset: 3, Producer: "p", Seq: 258, Key: "ke", Value: "val"}
	body, _ := hex.DecodeString("0000000000000003" + "00000001" + "70" + "0000000000000102" + "00000002" + "6b65" + "00000003" + "76616c")
	if s, e := segment.One(r); s != framed(string(body)) || e != api.OK {
		t.Errorf("%x, %d; want %x", s, e, framed(string(body)))
	}
	for i, r := range edges() {
		if s, e := segment.One(r); s != plain(r) || e != api.OK {
			t.Errorf("edge %d: %d bytes, %d; want %d bytes", i, len(s), e, len(plain(r)))
		}
	}
}

// P6.1, P2: of a record that is not right there are no bytes.
func TestOneOfWrong(t *testing.T) {
	for i, r := range wrong() {
		if s, e := segment.One(r); s != "" || e != api.ErrArg {
			t.Errorf("wrong %d: %d bytes, %d", i, len(s), e)
		}
	}
}

// P6.2, P6.3: the chapter's examples.
func TestExamples(t *testing.T) {
	two, _ := laid(recs(3, 5))
	wantScan(t, "from 0", 0, two, recs(3, 5), len(two), api.OK)
	wantScan(t, "from 4", 4, two, nil, 0, api.ErrOrder)
	three, places := laid(recs(3, 5, 6))
	wantIndex(t, 0, three, 2, api.Entry{Offset: 3, Pos: 0}, api.Entry{Offset: 6, Pos: places[2]})
	index, _ := segment.Index(0, three, 2)
	wantFrom(t, 0, three, index, 5, 1, recs(5))
}

// P6.2: no record, one, several whose offsets rise, with gaps and without.
func TestScan(t *testing.T) {
	for _, l := range [][]api.Record{nil, recs(0), recs(7), recs(great), recs(0, 1), recs(0, 1, 2, 3), recs(0, great), recs(great-1, great), recs(3, 5, 100, 1<<40, 1<<40+1)} {
		s, _ := laid(l)
		wantScan(t, "records", 0, s, l, len(s), api.OK)
	}
	for i, r := range edges() {
		wantScan(t, "an edge", 0, plain(r), edges()[i:i+1], len(plain(r)), api.OK)
	}
}

// P6.2: base may be any number: only an Offset below it is refused, and the first one at that.
func TestScanBase(t *testing.T) {
	for _, n := range []int{0, 1, 5, great} {
		s := plain(rec(n))
		for _, base := range []int{n, n - 1, 0, -1, math.MinInt} {
			wantScan(t, "base not above", base, s, recs(n), len(s), api.OK)
		}
		for _, base := range []int{n + 1, n + 2, great + 1, math.MaxInt} {
			wantScan(t, "base above", base, s, nil, 0, api.ErrOrder)
			wantScan(t, "base above the first of two", base, s+plain(rec(great)), nil, 0, api.ErrOrder)
			wantScan(t, "nothing", base, "", nil, 0, api.OK)
		}
	}
}

// P6.2: an Offset that is not above that of the one ahead ends it, whether or not it is below base.
func TestScanOrder(t *testing.T) {
	s, places := laid(recs(3, 5))
	for _, n := range []int{0, 2, 3, 4, 5} {
		wantScan(t, "behind 5", 3, s+plain(rec(n)), recs(3, 5), places[2], api.ErrOrder)
		wantScan(t, "behind 5, and one that rises behind it", 0, s+plain(rec(n))+plain(rec(9)), recs(3, 5), places[2], api.ErrOrder)
	}
	same := rec(5)
	same.Value = "another"
	wantScan(t, "the same offset, another value", 0, s+plain(same), recs(3, 5), places[2], api.ErrOrder)
	wantScan(t, "Seq need not rise", 0, s+plain(api.Record{Offset: 6}), append(recs(3, 5), api.Record{Offset: 6}), places[2]+len(plain(api.Record{Offset: 6})), api.OK)
	wantScan(t, "behind the greatest", 0, plain(rec(great))+plain(rec(great)), recs(great), len(plain(rec(great))), api.ErrOrder)
}

// noFrames are bytes that begin with no frame, and Take's error of them.
func noFrames() map[string]api.Errno {
	s := plain(rec(9))
	turned := []byte(s)
	turned[len(turned)-1] ^= 1
	sum := []byte(s)
	sum[5] ^= 0x80
	return map[string]api.Errno{
		"\x00":                             api.ErrShort,
		"\x00\x00\x00":                     api.ErrShort,
		"\xff\xff\xff":                     api.ErrShort,
		"\x00\x00\x00\x00":                 api.ErrShort,
		"\x00\x06\x1a\x80":                 api.ErrShort,
		"\x00\x06\x1a\x81":                 api.ErrLong,
		"\xff\xff\xff\xff" + s:             api.ErrLong,
		"left over":                        api.ErrLong,
		s[:len(s)-1]:                       api.ErrShort,
		string(turned):                     api.ErrSum,
		string(turned) + s:                 api.ErrSum,
		string(sum):                        api.ErrSum,
		s[:4] + "\x00\x00\x00\x00" + s[8:]: api.ErrSum,
		size("\x00", 8):                    api.ErrSum,
	}
}

// P6.2: where no frame begins it ends with Take's error, and tells what is ahead of it.
func TestScanNoFrame(t *testing.T) {
	two, _ := laid(recs(3, 5))
	for s, fault := range noFrames() {
		wantScan(t, "alone", 0, s, nil, 0, fault)
		wantScan(t, "behind two", 0, two+s, recs(3, 5), len(two), fault)
		wantScan(t, "alone, of a great base", great+1, s, nil, 0, fault)
	}
}

// noRecords are bodies that are no code of a right record.
func noRecords() []string {
	good := code(rec(9))
	l := []string{
		"",
		"no record",
		good[:len(good)-1],
		good[:8],
		good + "\x00",
		good + good,
		good[1:],
		"\x00" + good,
		framed(good),
		long(9) + text("p") + long(9) + text("k"),
		long(9) + text("p") + long(9) + text("k") + text("v") + text(""),
		text("p") + long(9) + long(9) + text("k") + text("v"),
		long(9) + text("p") + long(9) + text("k") + word(100001) + size("v", 100001),
		long(9) + text("p") + long(9) + text("k") + word(math.MaxUint32) + "v",
		long(9) + word(2) + "p",
		size("\x00", api.MaxFrame),
	}
	for _, n := range []uint64{great + 1, 1 << 62, 1<<63 - 1, 1 << 63, 1<<63 + 9, math.MaxUint64 - 1, math.MaxUint64} {
		l = append(l, long(n)+text("p")+long(9)+text("k")+text("v"), long(9)+text("p")+long(n)+text("k")+text("v"))
	}
	for _, r := range wrong() {
		l = append(l, code(r))
	}
	return l
}

// P6.2: a frame that is right, whose body is no such code, or is that of a record that is not right.
func TestScanNoRecord(t *testing.T) {
	two, _ := laid(recs(3, 5))
	for i, body := range noRecords() {
		s := framed(body)
		wantScan(t, "alone", 0, s, nil, 0, api.ErrForm)
		wantScan(t, "behind two", 3, two+s, recs(3, 5), len(two), api.ErrForm)
		wantScan(t, "behind two, ahead of one", 0, two+s+plain(rec(10)), recs(3, 5), len(two), api.ErrForm)
		wantScan(t, "whose base is above all", math.MaxInt, s, nil, 0, api.ErrForm)
		wantScan(t, "behind the greatest", 0, plain(rec(great))+s, recs(great), len(plain(rec(great))), api.ErrForm)
		if t.Failed() {
			t.Fatalf("body %d", i)
		}
	}
}

// P6.2: the first fault is told, and nothing behind it.
func TestScanEndsAtTheFirst(t *testing.T) {
	a, b := plain(rec(3)), plain(rec(5))
	form, sum := framed("no record"), size("\x00", 8)
	for _, x := range []struct {
		s     string
		fault api.Errno
	}{
		{a + form + sum, api.ErrForm},
		{a + sum + form, api.ErrSum},
		{a + a + sum, api.ErrOrder},
		{a + sum + a, api.ErrSum},
		{a + form + b, api.ErrForm},
		{a + a + b, api.ErrOrder},
		{a + a + b[:5], api.ErrOrder},
		{a + a[:len(a)-1], api.ErrShort},
		{a + form[:len(form)-1], api.ErrShort},
	} {
		wantScan(t, "a fault behind one record", 0, x.s, recs(3), len(a), x.fault)
	}
}

// P6.3: the 0th, the one at every, at 2 * every, ..
func TestIndex(t *testing.T) {
	l := recs(2, 3, 5, 7, 11, 13, 17)
	l[1].Value, l[4].Key = size("v", 1000), ""
	s, places := laid(l)
	for every := 1; every <= 9; every++ {
		var want []api.Entry
		for i := range l {
			if i%every == 0 {
				want = append(want, api.Entry{Offset: l[i].Offset, Pos: places[i]})
			}
		}
		wantIndex(t, 0, s, every, want...)
		wantIndex(t, 2, s, every, want...)
		wantIndex(t, math.MinInt, s, every, want...)
		wantIndex(t, 3, s, every)
		wantIndex(t, 0, "", every)
	}
	for _, every := range []int{7, 8, 1 << 40, math.MaxInt - 1, math.MaxInt} {
		wantIndex(t, 0, s, every, api.Entry{Offset: 2, Pos: 0})
	}
	wantIndex(t, 0, plain(rec(great)), 1, api.Entry{Offset: great, Pos: 0})
}

// P6.3: whatever the error of Scan is, the records ahead of it have their entries.
func TestIndexOfWhatScanRefuses(t *testing.T) {
	two, places := laid(recs(3, 5))
	tails := []string{plain(rec(5)), framed("no record"), plain(rec(-1))}
	for s := range noFrames() {
		tails = append(tails, s)
	}
	for _, s := range tails {
		wantIndex(t, 0, s+two, 1, wantEntries(s+two)...)
		wantIndex(t, 0, two+s, 1, api.Entry{Offset: 3, Pos: 0}, api.Entry{Offset: 5, Pos: places[1]})
		wantIndex(t, 0, two+s, 2, api.Entry{Offset: 3, Pos: 0})
	}
}

// wantEntries are the entries of all records of a text.
func wantEntries(s string) []api.Entry {
	var want []api.Entry
	l, places, _, _ := plainScan(0, s)
	for i, r := range l {
		want = append(want, api.Entry{Offset: r.Offset, Pos: places[i]})
	}
	return want
}

// P6.3, P2: every below 1 is refused, whatever the text is.
func TestIndexOfWrongEvery(t *testing.T) {
	two, _ := laid(recs(3, 5))
	for _, every := range []int{0, -1, -2, math.MinInt} {
		for _, s := range []string{"", two, "left over", framed("no record")} {
			if l, e := segment.Index(0, s, every); len(l) != 0 || e != api.ErrArg {
				t.Errorf("Index(0, %q, %d): %v, %d", s, every, l, e)
			}
		}
	}
}

// P6.3: the last entry that is not above.
func TestFind(t *testing.T) {
	index := []api.Entry{{Offset: 3, Pos: 10}, {Offset: 5, Pos: 40}, {Offset: 9, Pos: 90}}
	for _, x := range []struct{ offset, pos int }{{3, 10}, {4, 10}, {5, 40}, {6, 40}, {8, 40}, {9, 90}, {10, 90}, {great, 90}, {math.MaxInt, 90}, {2, 0}, {0, 0}, {-1, 0}, {math.MinInt, 0}} {
		if pos := segment.Find(index, x.offset); pos != x.pos {
			t.Errorf("Find(%d): %d; want %d", x.offset, pos, x.pos)
		}
		for _, none := range [][]api.Entry{nil, {}} {
			if pos := segment.Find(none, x.offset); pos != 0 {
				t.Errorf("Find(%d) of none: %d", x.offset, pos)
			}
		}
	}
}

// P6.3: of entries that do not rise, and of the same Offset, it is the last one all the same.
func TestFindOfAnyList(t *testing.T) {
	index := []api.Entry{{Offset: 9, Pos: 1}, {Offset: 3, Pos: 2}, {Offset: 5, Pos: 3}, {Offset: 5, Pos: 4}, {Offset: 7, Pos: -5}, {Offset: -2, Pos: 6}, {Offset: 8, Pos: 7}}
	for from := range index {
		for offset := -4; offset < 12; offset++ {
			if pos, want := segment.Find(index[from:], offset), plainFind(index[from:], offset); pos != want {
				t.Errorf("Find(%v, %d): %d; want %d", index[from:], offset, pos, want)
			}
		}
	}
}

// P6.3: From an offset that is there, one between two, one behind all; by each index, and by none.
func TestFrom(t *testing.T) {
	l := recs(2, 3, 5, 8, 13, 14)
	s, _ := laid(l)
	for every := 0; every <= 8; every++ {
		index, _ := segment.Index(0, s, every) // of 0: none
		for offset := -1; offset <= 16; offset++ {
			first := len(l)
			for first > 0 && l[first-1].Offset >= offset {
				first--
			}
			for most := -1; most <= 8; most++ {
				wantFrom(t, 0, s, index, offset, most, l[first:first+max(min(most, len(l)-first), 0)])
			}
			wantFrom(t, 2, s, index, offset, math.MaxInt, l[first:])
			wantFrom(t, math.MinInt, s, index, offset, math.MaxInt, l[first:])
			wantFrom(t, 0, s, index, offset, math.MinInt, nil)
		}
		wantFrom(t, 0, s, index, math.MinInt, 3, l[:3])
		wantFrom(t, 0, s, index, math.MaxInt, 3, nil)
		wantFrom(t, 0, s, index, great, 3, nil)
	}
}

// P6.3: From tells records of Scan alone: none that is behind its fault, none if the base is above the first.
func TestFromOfWhatScanRefuses(t *testing.T) {
	two, _ := laid(recs(3, 5))
	tails := []string{plain(rec(5)), plain(rec(4)), framed("no record")}
	for s := range noFrames() {
		tails = append(tails, s)
	}
	for _, tail := range tails {
		s := two + tail + plain(rec(12))
		for every := range 4 {
			index, _ := segment.Index(0, s, every)
			wantFrom(t, 0, s, index, 0, 9, recs(3, 5))
			wantFrom(t, 0, s, index, 4, 9, recs(5))
			wantFrom(t, 0, s, index, 5, 9, recs(5))
			wantFrom(t, 0, s, index, 6, 9, nil)
			wantFrom(t, 0, s, index, 12, 9, nil)
			above, _ := segment.Index(4, s, every)
			wantFrom(t, 4, s, above, 0, 9, nil)
			wantFrom(t, 4, s, above, 5, 9, nil)
		}
		wantFrom(t, 0, tail+two, nil, 5, 9, plainFrom(0, tail+two, nil, 5, 9))
	}
}

// P6.3: records of Scan ahead of the place that the index names are not told.
func TestFromBeginsAtThePlace(t *testing.T) {
	l := recs(3, 5, 6, 9)
	s, places := laid(l)
	for i := range l {
		wantFrom(t, 0, s, []api.Entry{{Offset: 0, Pos: places[i]}}, 0, 9, l[i:])
	}
	wantFrom(t, 0, s, []api.Entry{{Offset: 0, Pos: len(s)}}, 0, 9, nil)
}

// P1, P6.3: of an index that is another one's nothing is promised but that the call ends.
func TestFromByAnotherIndex(t *testing.T) {
	inner := api.Record{Offset: 4, Value: plain(rec(9)) + plain(rec(1))}
	s := plain(rec(3)) + plain(inner) + plain(rec(6))
	places := []int{math.MinInt, math.MinInt + 1, -1, len(s), len(s) + 1, 1 << 40, math.MaxInt}
	for at := range s {
		places = append(places, at)
	}
	for _, pos := range places {
		for _, offset := range []int{-1, 0, 3, 5, 9, math.MaxInt} {
			for _, index := range [][]api.Entry{{{Offset: 0, Pos: pos}}, {{Offset: math.MinInt, Pos: pos}}, {{Offset: 5, Pos: pos}, {Offset: 3, Pos: 0}}} {
				for _, most := range []int{-1, 0, 1, math.MaxInt} {
					if l := segment.From(0, s, index, offset, most); len(l) > max(most, 0) || slices.ContainsFunc(l, func(r api.Record) bool { return !isRight(r) || r.Offset < offset }) {
						t.Errorf("From(0, s, %v, %d, %d): %d", index, offset, most, brief(l))
					}
				}
			}
		}
	}
}
