package codec_test

import (
	"math"
	"slices"
	"strings"
	"sync"
	"testing"

	"carillon/api"
	"carillon/codec"
)

// lists are all lists of at most three items of a few of each kind.
func lists() [][]api.Item {
	some := items(oneByte(0), oneByte(255), word(1), word(math.MaxUint32), long(0), long(1<<63+2), text(""), text("\x00\x00\x00\x01"))
	out := [][]api.Item{nil}
	for at := 0; at < len(out); at++ {
		if len(out[at]) == 3 {
			break
		}
		for _, x := range some {
			out = append(out, append(slices.Clone(out[at]), x))
		}
	}
	return out
}

func encoded(t *testing.T, l []api.Item) (shape, s string) {
	t.Helper()
	s, e := codec.Encode(l)
	shape, f := codec.Shape(l)
	if e != api.OK || f != api.OK {
		t.Fatalf("%d items: %d, %d", len(l), e, f)
	}
	return shape, s
}

// P1.3: there and back, by the shape and by shapes with a star that say the same.
func TestThereAndBack(t *testing.T) {
	for _, l := range lists() {
		shape, s := encoded(t, l)
		wantDecode(t, shape, s, l, api.OK)
		for at := range len(shape) {
			wantDecode(t, shape[:at]+"*"+shape[at:], s, l, api.OK)
		}
		if shape != "" {
			twice := slices.Concat(l, l)
			wantDecode(t, "*"+shape, s+s, twice, api.OK)
			wantDecode(t, shape+"*"+shape, s+s, twice, api.OK)
		}
	}
}

// P1.3: there and back at the limits.
func TestThereAndBackOfMuch(t *testing.T) {
	full := strings.Repeat("\xc3", api.MaxText)
	l := many(text("abc"), api.MaxItems)
	l[0], l[1], l[api.MaxItems-1] = text(full), long(math.MaxUint64), text(full)
	shape, s := encoded(t, l)
	wantDecode(t, shape, s, l, api.OK)
	wantDecode(t, "tl*t", s, l, api.OK)
}

// P1.3: Encode of Decode is the text, of every text that a shape takes.
func TestBackAndThere(t *testing.T) {
	taken := 0
	for _, shape := range []string{"", "b", "w", "l", "t", "*b", "*t", "b*w", "tt", "*bt", "w*tb", "l*l"} {
		for _, s := range shortTexts() {
			l, e := codec.Decode(shape, s)
			if e != api.OK {
				continue
			}
			taken++
			wantEncode(t, "of Decode by "+shape, l, s, api.OK)
		}
	}
	if taken < 100 {
		t.Errorf("only %d texts were taken", taken)
	}
}

// shortTexts are the texts of at most ten bytes, each a nought, a one (three at most) or an a (two at most).
func shortTexts() []string {
	out := []string{""}
	for length := range 10 {
		for _, s := range out {
			if len(s) != length {
				continue
			}
			out = append(out, s+"\x00")
			if strings.Count(s, "\x01") < 3 {
				out = append(out, s+"\x01")
			}
			if strings.Count(s, "a") < 2 {
				out = append(out, s+"a")
			}
		}
	}
	return out
}

// P1.3: no beginning, and nothing longer.
func TestNothingShorterNothingLonger(t *testing.T) {
	more := []string{"\x00", "\x01", "\xff", "\x00\x00\x00\x00", strings.Repeat("\x00", 8), "\x00\x00\x00\x01a"}
	for _, l := range lists() {
		shape, s := encoded(t, l)
		for at := range len(s) {
			wantDecode(t, shape, s[:at], nil, api.ErrShort)
		}
		for _, m := range more {
			wantDecode(t, shape, s+m, nil, api.ErrForm)
		}
	}
}

// P1, P2: whatever comes in, a call ends, and with an error there is nothing else.
func TestWithAnErrorNothingElse(t *testing.T) {
	for _, l := range [][]api.Item{many(oneByte(1), 1001), items(oneByte(1), oneByte(256)), items(text("a"), text(strings.Repeat("a", 100001))), items(oneByte(1), api.Item{Kind: -7})} {
		if s, e := codec.Encode(l); e == api.OK || s != "" {
			t.Errorf("Encode of %d items: %q, %d", len(l), brief(s), e)
		}
	}
	if s, e := codec.Shape(items(oneByte(1), api.Item{Kind: 5})); e == api.OK || s != "" {
		t.Errorf("Shape: %q, %d", s, e)
	}
	for _, c := range [][2]string{{"bx", "a"}, {"bb", "a"}, {"b", "ab"}, {"bt", "a\xff\xff\xff\xff"}, {"*b", strings.Repeat("a", 1001)}} {
		if l, e := codec.Decode(c[0], c[1]); e == api.OK || len(l) != 0 {
			t.Errorf("Decode(%q, %q): %v, %d", c[0], brief(c[1]), l, e)
		}
	}
}

// P3: nothing that is handed in is written into, nor what stands behind it.
func TestNothingIsWrittenInto(t *testing.T) {
	whole := items(oneByte(1), text("ab"), word(7), text("behind"))
	kept := slices.Clone(whole)
	codec.Encode(whole[:2])
	codec.Shape(whole[:2])
	codec.Encode(whole[:2:3])
	if !slices.Equal(whole, kept) {
		t.Errorf("%v; was %v", whole, kept)
	}
}

// P3: an answer's list is new memory, spare room too.
func TestListsAreNewMemory(t *testing.T) {
	first, _ := codec.Decode("*b", "abc")
	second, _ := codec.Decode("*b", "abc")
	want := slices.Clone(second)
	first = first[:cap(first)]
	for i := range first {
		first[i] = text("spoilt")
	}
	third, _ := codec.Decode("*b", "abc")
	if !slices.Equal(second, want) || !slices.Equal(third, want) {
		t.Errorf("%v, %v; want %v", second, third, want)
	}
}

// P3: a text of an answer is no piece of what was handed in: beside the list each text is made.
func TestTextsAreNewMemory(t *testing.T) {
	const n = 100
	s := strings.Repeat("\x00\x00\x00\x01a", n)
	made := testing.AllocsPerRun(5, func() { codec.Decode("*t", s) })
	without := testing.AllocsPerRun(5, func() { codec.Decode("*wb", s[:len(s)/2]) })
	if made-without < n {
		t.Errorf("%v pieces of memory for %d texts, %v for as many numbers", made, n, without)
	}
}

// P4: the same arguments, the same answer, whatever was asked between and beside it.
func TestAnswersHangOnArgumentsAlone(t *testing.T) {
	l := items(oneByte(1), text("ab"), long(9))
	shape, s := encoded(t, l)
	var all sync.WaitGroup
	for range 8 {
		all.Go(func() {
			for range 50 {
				wantDecode(t, "*b", "xyz", items(oneByte('x'), oneByte('y'), oneByte('z')), api.OK)
				wantDecode(t, shape, s, l, api.OK)
				wantDecode(t, shape, s+"a", nil, api.ErrForm)
				wantEncode(t, "again", l, s, api.OK)
			}
		})
	}
	all.Wait()
}

// P5: each field that the chapter does not name for a kind has its zero value.
func TestOtherFieldsAreZero(t *testing.T) {
	l, e := codec.Decode("bwlt", "\x01\x00\x00\x00\x02\x00\x00\x00\x00\x00\x00\x00\x03\x00\x00\x00\x01a")
	if e != api.OK || len(l) != 4 {
		t.Fatal(l, e)
	}
	for _, x := range l {
		if x.Kind == api.IText && x.N != 0 || x.Kind != api.IText && x.S != "" {
			t.Errorf("%+v", x)
		}
	}
}

// P1, P1.3: whatever the bytes, a decoding ends, and what it takes is told back.
func FuzzDecode(f *testing.F) {
	f.Add("bwlt", "\x01\x00\x00\x00\x02\x00\x00\x00\x00\x00\x00\x00\x03\x00\x00\x00\x01a")
	f.Add("b*wt", "\x01\x00\x00\x00\x02\x00\x00\x00\x01a")
	f.Add("t", "\x00\x01\x86\xa1")
	f.Add("b**", "")
	f.Fuzz(func(t *testing.T, shape, s string) {
		l, e := codec.Decode(shape, s)
		if e != api.OK {
			if len(l) != 0 {
				t.Errorf("%d items, %d", len(l), e)
			}
			return
		}
		wantEncode(t, "of Decode", l, s, api.OK)
		own, _ := encoded(t, l)
		wantDecode(t, own, s, l, api.OK)
	})
}
