package topic_test

import (
	"math"
	"strings"
	"testing"

	"carillon/api"
	"carillon/topic"
)

// P15.1, P15.2: the chapter's examples, line by line.
func TestExamples(t *testing.T) {
	x := made(t, "t")
	wantPublish(t, x, "p", 1, "k", "v", 0, api.ROK)
	wantPublish(t, x, "p", 1, "k", "v", 0, api.ROK)
	wantPublish(t, x, "p", 0, "k", "w", 0, api.ROld)
	wantPublish(t, x, "p", 5, "k", "w", 1, api.ROK)
	wantCompact(t, x, 9)
	wantRead(t, x, 0, 9, rec(1, "p", 5, "k", "w"))
	if x.End() != 2 {
		t.Errorf("End: %d", x.End())
	}
	wantTrim(t, x, 3, api.RArg)
	wantTrim(t, x, 2, api.ROK)
	if x.Low() != 2 {
		t.Errorf("Low: %d", x.Low())
	}
	wantRead(t, x, 0, 9)
}

// words are words at the edges of their length and of their letters.
func words() []string {
	l := []string{size("a", 20), size("z", 20), size("0", 20), size("9", 20), "abcdefghijklmnopqrst", "uvwxyz0123456789", "007", "news2"}
	return append(l, strings.Split(wordBytes, "")...)
}

// noWords are texts that are no words: by their length, and by each byte that is no letter, alone, ahead, between and behind.
func noWords() []string {
	l := []string{"", size("a", 21), size("a", 22), size("a", 256+1), size("b", 100000), "é", "日", "ａ", "A", "News", "a-b", "a_b", "a.b", "a b", "a\x00", "\x00a"}
	for b := range 256 {
		if x := string([]byte{byte(b)}); !strings.Contains(wordBytes, x) {
			l = append(l, x, x+"a", "a"+x, "a"+x+"a", size("a", 19)+x)
		}
	}
	return l
}

// P15.1: of each word there is a topic, without records, whose marks are 0.
func TestNew(t *testing.T) {
	for _, name := range words() {
		wantForm(t, made(t, name), form{name: name})
	}
}

// P15.1, P2: of what is no word there is none.
func TestNewOfNoWord(t *testing.T) {
	for _, name := range noWords() {
		if x, e := topic.New(name); x != nil || e != api.ErrName {
			t.Errorf("New(%q): %v, %d", name, x, e)
		}
	}
}

// P15.1: each publish of a new Seq is one record more, of the Offset End, whoever publishes it; what it got is told.
func TestPublish(t *testing.T) {
	x := made(t, "t")
	f := form{name: "t"}
	for i, p := range words() {
		wantPublish(t, x, p, i, "k", "v", i, api.ROK)
		f.records = append(f.records, rec(i, p, i, "k", "v"))
		wantRead(t, x, 0, i+2, f.records...)
		if x.End() != i+1 || x.Low() != 0 {
			t.Errorf("%d to %d", x.Low(), x.End())
		}
	}
}

// P15.1: Seq 0 and 2^53 - 1, of a producer that is new and of one that has published.
func TestPublishAtTheEdgesOfSeq(t *testing.T) {
	x := made(t, "t")
	wantPublish(t, x, "p", 0, "", "", 0, api.ROK)
	wantPublish(t, x, "p", 0, "", "", 0, api.ROK)
	wantPublish(t, x, "p", great-1, "", "", 1, api.ROK)
	wantPublish(t, x, "p", great, "", "", 2, api.ROK)
	wantPublish(t, x, "p", great, "", "", 2, api.ROK)
	wantPublish(t, x, "p", great-1, "", "", 0, api.ROld)
	wantPublish(t, x, "p", 0, "", "", 0, api.ROld)
	wantPublish(t, x, "q", great, "", "", 3, api.ROK)
	wantPublish(t, x, "r", 0, "", "", 4, api.ROK)
	wantForm(t, x, form{name: "t", end: 5, producers: []who{{"p", great, 2}, {"q", great, 3}, {"r", 0, 4}},
		records: []api.Record{rec(0, "p", 0, "", ""), rec(1, "p", great-1, "", ""), rec(2, "p", great, "", ""), rec(3, "q", great, "", ""), rec(4, "r", 0, "", "")}})
}

// P15.1: the last Seq again, one less, one more; what is asked again changes nothing, whatever its key and value are then.
func TestPublishAgain(t *testing.T) {
	for _, seq := range []int{1, 2, 5, 255, 256, 1 << 31, 1 << 32, great - 1} {
		x := made(t, "t")
		wantPublish(t, x, "q", 3, "k", "q", 0, api.ROK)
		wantPublish(t, x, "p", seq, "k", "v", 1, api.ROK)
		f := form{name: "t", end: 2, producers: []who{{"p", seq, 1}, {"q", 3, 0}}, records: []api.Record{rec(0, "q", 3, "k", "q"), rec(1, "p", seq, "k", "v")}}
		wantPublish(t, x, "p", seq, "k", "v", 1, api.ROK)
		wantPublish(t, x, "p", seq, "other", "one", 1, api.ROK)
		wantPublish(t, x, "p", seq-1, "k", "v", 0, api.ROld)
		wantPublish(t, x, "p", 0, "k", "v", 0, api.ROld)
		wantPublish(t, x, "q", 3, "", "", 0, api.ROK)
		wantPublish(t, x, "q", 2, "", "", 0, api.ROld)
		wantForm(t, x, f)
		wantPublish(t, x, "p", seq+1, "k", "v", 2, api.ROK)
		wantPublish(t, x, "p", seq, "k", "v", 0, api.ROld)
		wantPublish(t, x, "q", 4, "", "", 3, api.ROK)
	}
}

// P15.1: what another producer has published says nothing of one's own numbers.
func TestProducersHaveTheirOwnNumbers(t *testing.T) {
	x := made(t, "t")
	for i, p := range []string{"p", "pp", "q", "0", "z", size("p", 20)} {
		wantPublish(t, x, p, 7, "k", p, 2*i, api.ROK)
		wantPublish(t, x, p, 8, "k", p, 2*i+1, api.ROK)
		wantPublish(t, x, p, 7, "k", p, 0, api.ROld)
		wantPublish(t, x, p, 8, "k", p, 2*i+1, api.ROK)
	}
	wantPublish(t, x, "p", 8, "", "", 1, api.ROK)
	wantPublish(t, x, "pp", 8, "", "", 3, api.ROK)
}

// P15.1, P2: what is not right is RArg, of a new producer and of one that has published, also with the Seq that it had last; nothing has changed behind it.
func TestPublishOfWrongThings(t *testing.T) {
	x := made(t, "t")
	wantPublish(t, x, "p", 5, "k", "v", 0, api.ROK)
	f := form{name: "t", end: 1, producers: []who{{"p", 5, 0}}, records: []api.Record{rec(0, "p", 5, "k", "v")}}
	for _, p := range noWords() {
		wantPublish(t, x, p, 5, "k", "v", 0, api.RArg)
	}
	for _, seq := range []int{-1, -2, -5, great + 1, great + 2, great + 6, 1 << 62, math.MinInt, math.MaxInt} {
		wantPublish(t, x, "p", seq, "k", "v", 0, api.RArg)
		wantPublish(t, x, "q", seq, "k", "v", 0, api.RArg)
	}
	for _, seq := range []int{4, 5, 6} {
		for _, p := range []string{"p", "q"} {
			wantPublish(t, x, p, seq, size("k", 101), "v", 0, api.RArg)
			wantPublish(t, x, p, seq, "k", size("v", 1001), 0, api.RArg)
			wantPublish(t, x, p, seq, size("k", 100000), "", 0, api.RArg)
			wantPublish(t, x, p, seq, "", size("v", 1000000), 0, api.RArg)
		}
	}
	wantPublish(t, x, "", -1, size("k", 101), size("v", 1001), 0, api.RArg)
	wantForm(t, x, f)
}

// P15.1: a key of MaxKey bytes, a value of MaxValue, of any bytes.
func TestPublishAtTheEdgesOfKeyAndValue(t *testing.T) {
	x := made(t, "t")
	keys := []string{"", "\x00", size("k", 99), size("\xff", 100), "日本", size("\x00", 100)}
	values := []string{"", "\x00", size("v", 999), size("\xff", 1000), "é", size("\x00", 1000)}
	f := form{name: "t"}
	for _, k := range keys {
		for _, v := range values {
			wantPublish(t, x, "p", f.end, k, v, f.end, api.ROK)
			f.records = append(f.records, rec(f.end, "p", f.end, k, v))
			f.producers = []who{{"p", f.end, f.end}}
			f.end++
		}
	}
	wantForm(t, x, f)
}

// five are the records 0 to 4 of a topic, without keys.
func five(t *testing.T) (*topic.Topic, []api.Record) {
	t.Helper()
	x := made(t, "t")
	for i := range 5 {
		wantPublish(t, x, "p", 10+i, "", size("v", i), i, api.ROK)
	}
	return x, x.Read(0, 5)
}

// P15.2: from the low mark, between, from the last one, from End, from beyond; with most 0, 1, just as many as there are, and more; below 0.
func TestRead(t *testing.T) {
	x, l := five(t)
	for i, r := range l {
		if r != rec(i, "p", 10+i, "", size("v", i)) {
			t.Errorf("%v", r)
		}
	}
	for low := range 6 {
		wantTrim(t, x, low, api.ROK)
		for _, offset := range []int{math.MinInt, -1, 0, 1, 2, 3, 4, 5, 6, great, math.MaxInt} {
			from := l[min(max(offset, low), 5):]
			for _, most := range []int{math.MinInt, -1, 0, 1, 2, 3, 4, 5, 6, 1000, math.MaxInt} {
				wantRead(t, x, offset, most, from[:min(max(most, 0), len(from))]...)
			}
		}
	}
}

// P15.2: Read of a topic in which there are gaps: from an offset that no record has on, the next one.
func TestReadOverGaps(t *testing.T) {
	f := form{name: "t", low: 3, end: 200, records: []api.Record{rec(5, "p", 1, "", "a"), rec(6, "", 0, "", "b"), rec(90, "q", 1, "k", "c"), rec(199, "", great, "", "d")}}
	x := loaded(t, f)
	l := f.records
	for offset := -2; offset < 203; offset++ {
		at := 0
		for at < len(l) && l[at].Offset < offset {
			at++
		}
		wantRead(t, x, offset, 1, l[at:min(at+1, len(l))]...)
		wantRead(t, x, offset, 2, l[at:min(at+2, len(l))]...)
		wantRead(t, x, offset, 9, l[at:]...)
	}
}

// P15.2: Trim at the low mark, one above it, between, at End; the records below n are gone, and no other ones.
func TestTrim(t *testing.T) {
	for n := range 6 {
		for again := range 7 {
			x, l := five(t)
			f := form{name: "t", low: n, end: 5, producers: []who{{"p", 14, 4}}, records: l[n:]}
			wantTrim(t, x, n, api.ROK)
			wantForm(t, x, f)
			if again > 5 {
				wantTrim(t, x, again, api.RArg)
				wantForm(t, x, f)
				continue
			}
			wantTrim(t, x, again, api.ROK)
			f.low = max(n, again)
			f.records = l[f.low:]
			wantForm(t, x, f)
		}
	}
}

// P15.2, P2: below 0 nothing is changed, as it is not above the low mark; above End it is RArg, and nothing is changed.
func TestTrimOfWrongNumbers(t *testing.T) {
	for low := range 6 {
		x, l := five(t)
		wantTrim(t, x, low, api.ROK)
		for _, n := range []int{-1, -5, -great, math.MinInt} {
			wantTrim(t, x, n, api.ROK)
		}
		for _, n := range []int{6, 7, great, great + 1, math.MaxInt} {
			wantTrim(t, x, n, api.RArg)
		}
		wantForm(t, x, form{name: "t", low: low, end: 5, producers: []who{{"p", 14, 4}}, records: l[low:]})
	}
	x := made(t, "t")
	wantTrim(t, x, 1, api.RArg)
	wantTrim(t, x, 0, api.ROK)
	wantTrim(t, x, -1, api.ROK)
	wantForm(t, x, form{name: "t"})
}

// P15.2: Trim at a place where there is no record, as it was compacted.
func TestTrimWithinAGap(t *testing.T) {
	for n := range 8 {
		x := made(t, "t")
		for i, k := range []string{"a", "b", "b", "b", "a", "c"} {
			wantPublish(t, x, "p", i, k, "v", i, api.ROK)
		}
		wantCompact(t, x, 6)
		l := []api.Record{rec(3, "p", 3, "b", "v"), rec(4, "p", 4, "a", "v"), rec(5, "p", 5, "c", "v")}
		wantRead(t, x, 0, 9, l...)
		if n > 6 {
			wantTrim(t, x, n, api.RArg)
			wantRead(t, x, 0, 9, l...)
			continue
		}
		wantTrim(t, x, n, api.ROK)
		wantForm(t, x, form{name: "t", low: n, end: 6, producers: []who{{"p", 5, 5}}, records: l[max(n-3, 0):]})
	}
}

// P15.2: Compact with 0, each offset, End, beyond, below 0: below upto of two records of one key the first one is gone, and none without a key.
func TestCompact(t *testing.T) {
	keys := []string{"a", "", "b", "a", "", "a", "b"}
	gone := []int{0, 2, 3} // behind these there is one of the same key
	for _, upto := range []int{math.MinInt, -1, 0, 1, 2, 3, 4, 5, 6, 7, 8, great, math.MaxInt} {
		x := made(t, "t")
		f := form{name: "t", end: 7, producers: []who{{"p", 6, 6}}}
		for i, k := range keys {
			wantPublish(t, x, "p", i, k, "v", i, api.ROK)
			if i < upto && (i == gone[0] || i == gone[1] || i == gone[2]) {
				continue
			}
			f.records = append(f.records, rec(i, "p", i, k, "v"))
		}
		wantCompact(t, x, upto)
		wantForm(t, x, f)
		wantCompact(t, x, upto)
		wantForm(t, x, f)
	}
}

// P15.2: of a topic without records there is nothing to compact.
func TestCompactOfNothing(t *testing.T) {
	x := made(t, "t")
	for _, upto := range []int{math.MinInt, -1, 0, 1, math.MaxInt} {
		wantCompact(t, x, upto)
		wantForm(t, x, form{name: "t"})
	}
	wantPublish(t, x, "p", 1, "k", "v", 0, api.ROK)
}

// P15.2: a record that was trimmed supersedes nothing and is not superseded; one that was compacted is not counted again.
func TestTrimAndCompact(t *testing.T) {
	x := made(t, "t")
	for i, k := range []string{"a", "b", "a", "c"} {
		wantPublish(t, x, "p", i, k, "v", i, api.ROK)
	}
	wantTrim(t, x, 1, api.ROK)
	wantCompact(t, x, 4)
	wantRead(t, x, 0, 9, rec(1, "p", 1, "b", "v"), rec(2, "p", 2, "a", "v"), rec(3, "p", 3, "c", "v"))
	wantPublish(t, x, "q", 0, "b", "w", 4, api.ROK)
	wantPublish(t, x, "q", 1, "c", "w", 5, api.ROK)
	wantCompact(t, x, 3)
	wantRead(t, x, 0, 9, rec(2, "p", 2, "a", "v"), rec(3, "p", 3, "c", "v"), rec(4, "q", 0, "b", "w"), rec(5, "q", 1, "c", "w"))
	wantTrim(t, x, 3, api.ROK)
	wantCompact(t, x, 9)
	wantForm(t, x, form{name: "t", low: 3, end: 6, producers: []who{{"p", 3, 3}, {"q", 1, 5}}, records: []api.Record{rec(4, "q", 0, "b", "w"), rec(5, "q", 1, "c", "w")}})
}

// P15.1, P15.2: what producers got stays, also when its record is trimmed or compacted; the next record goes on at End.
func TestWhatProducersGotStays(t *testing.T) {
	x := made(t, "t")
	wantPublish(t, x, "p", 3, "k", "v", 0, api.ROK)
	wantPublish(t, x, "q", 4, "k", "w", 1, api.ROK)
	wantCompact(t, x, 9)
	wantRead(t, x, 0, 9, rec(1, "q", 4, "k", "w"))
	wantPublish(t, x, "p", 3, "k", "v", 0, api.ROK)
	wantPublish(t, x, "p", 2, "k", "v", 0, api.ROld)
	wantTrim(t, x, 2, api.ROK)
	wantRead(t, x, 0, 9)
	wantPublish(t, x, "q", 4, "k", "w", 1, api.ROK)
	wantPublish(t, x, "p", 3, "k", "v", 0, api.ROK)
	wantForm(t, x, form{name: "t", low: 2, end: 2, producers: []who{{"p", 3, 0}, {"q", 4, 1}}})
	wantPublish(t, x, "p", 4, "k", "u", 2, api.ROK)
	wantForm(t, x, form{name: "t", low: 2, end: 3, producers: []who{{"p", 4, 2}, {"q", 4, 1}}, records: []api.Record{rec(2, "p", 4, "k", "u")}})
}
