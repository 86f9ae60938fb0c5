package compact_test

import (
	"fmt"
	"math"
	"slices"
	"testing"
	"unsafe"

	"carillon/api"
	"carillon/compact"
	"carillon/disk"
	"carillon/logstore"
)

// last are the records that tell the last value of each key.
func last(l []api.Record) map[string]api.Record {
	out := map[string]api.Record{}
	for _, r := range l {
		if r.Key != "" {
			out[r.Key] = r
		}
	}
	return out
}

// follows looks at what Run leaves of a log: each key's last value, each record without a key, all Offsets, the active segment; of two records of a key below upto, ahead of the active segment, the first one is gone.
func follows(t *testing.T, was, now told, upto int) {
	t.Helper()
	a, b := last(was.records), last(now.records)
	for key, r := range a {
		if b[key] != r {
			t.Errorf("the last one of %q is %v; was %v", key, b[key], r)
		}
	}
	if was.low != now.low || was.end != now.end || len(was.segments) != len(now.segments) || was.segments[len(was.segments)-1] != now.segments[len(now.segments)-1] {
		t.Errorf("low %d, end %d, segments %v; was %v", now.low, now.end, now.segments, was)
	}
	active := was.segments[len(was.segments)-1].Base
	var want []api.Record
	for i, r := range was.records {
		twin := slices.ContainsFunc(was.records[i+1:], func(s api.Record) bool { return s.Key == r.Key })
		if r.Key == "" || !twin || r.Offset >= upto || r.Offset >= active {
			want = append(want, r)
		}
	}
	if !slices.Equal(now.records, want) {
		t.Errorf("%s; want %s", written(now.records), written(want))
	}
}

// P8.3: what is kept of a key tells its last value, and all Offsets stay, at each upto.
func TestLastValuesStay(t *testing.T) {
	l := list("a0 b1 -2 a3 c4 b5 b6 -7 a8 c9 d10 a11")
	for limit := 1; limit < 500; limit += 40 {
		for upto := -1; upto <= 13; upto++ {
			d := laid(t, 100000, nil)
			x := opened(t, d, limit)
			for _, r := range l {
				if e := x.Append(r); e != api.OK {
					t.Fatal(e)
				}
			}
			was, had := tells(t, x), found(t, d)
			n, e := compact.Run(x, upto)
			if e != api.OK {
				t.Fatal(e)
			}
			follows(t, was, tells(t, x), upto)
			name := func(s api.Segment) string { return part{base: s.Base, gen: s.Gen}.name() }
			active := name(was.segments[len(was.segments)-1])
			if found(t, d)[active] != had[active] {
				t.Error("the active segment has changed")
			}
			for i, s := range x.Segments() {
				n -= s.Gen - was.segments[i].Gen
			}
			if n != 0 {
				t.Errorf("%d more were told than swapped", n)
			}
			if t.Failed() {
				t.Fatalf("Run(%d), limit %d", upto, limit)
			}
		}
	}
}

// P8.1, P8.3: of two records of one key, both below upto, the first one is gone; Keep of what is kept is that.
func TestKeepOfWhatIsKept(t *testing.T) {
	for seed := range uint32(300) {
		var l []api.Record
		for i, b := range bytesOf(seed, 5) {
			l = append(l, rec(2*i, []string{"", "a", "b", "c"}[b%4]))
		}
		for upto := -1; upto < 42; upto++ {
			stay := compact.Keep(l, upto)
			if !slices.Equal(compact.Keep(stay, upto), stay) || len(compact.Gone(stay, upto)) != 0 || len(stay)+len(compact.Gone(l, upto)) != len(l) {
				t.Fatalf("Keep(%s; %d): %s", written(l), upto, written(stay))
			}
			seen := map[string]int{}
			for _, r := range stay {
				if r.Key != "" && r.Offset < upto {
					seen[r.Key]++
				}
				if seen[r.Key] > 1 {
					t.Fatalf("Keep(%s; %d): %s", written(l), upto, written(stay))
				}
			}
		}
	}
}

// lent is a text whose bytes the caller goes on to write into.
func lent(b []byte) string { return unsafe.String(unsafe.SliceData(b), len(b)) }

// spoil writes over a list and its spare room.
func spoil[T any](l []T, x T) {
	l = l[:cap(l)]
	for i := range l {
		l[i] = x
	}
}

// P3: nothing that is handed in is written into, nor kept: what is written over it then is not told.
func TestNothingHandedInIsKept(t *testing.T) {
	word := []byte("abc")
	r := api.Record{Offset: 1, Producer: lent(word), Key: lent(word), Value: lent(word)}
	next := api.Record{Offset: 2, Producer: lent(word), Value: lent(word)}
	behind := rec(77, "abc")
	l := []api.Record{r, r, next, behind, behind}
	stay, gone := compact.Keep(l[:3], 9), compact.Gone(l[:3], 9)
	if !slices.Equal(l, []api.Record{r, r, next, behind, behind}) || string(word) != "abc" {
		t.Error("written into:", l, string(word))
	}
	copy(word, "!!!")
	spoil(l, behind)
	want := []api.Record{{Offset: 1, Producer: "abc", Key: "abc", Value: "abc"}, {Offset: 2, Producer: "abc", Value: "abc"}}
	if !slices.Equal(stay, want) || !slices.Equal(gone, []int{1}) {
		t.Errorf("%v, %v", stay, gone)
	}
}

// P3: what is told is new memory, spare room too.
func TestAnswersAreNewMemory(t *testing.T) {
	l := list("a0 b1 a2 c3 b4 a5 d6")
	was := slices.Clone(l)
	stay, gone := compact.Keep(l, 4), compact.Gone(l, 4)
	again, still := compact.Keep(l, 4), compact.Gone(l, 4)
	for i, r := range stay {
		at := slices.Index(l, r)
		for _, other := range []api.Record{l[at], again[i]} {
			if unsafe.StringData(r.Key) == unsafe.StringData(other.Key) || unsafe.StringData(r.Value) == unsafe.StringData(other.Value) || unsafe.StringData(r.Producer) == unsafe.StringData(other.Producer) {
				t.Errorf("%v shares its bytes", r)
			}
		}
	}
	spoil(stay, rec(99, "x"))
	spoil(gone, -1)
	if !slices.Equal(l, was) || !slices.Equal(again, list("c3 b4 a5 d6")) || !slices.Equal(still, []int{0, 1, 2}) {
		t.Errorf("%s, %s, %v", written(l), written(again), still)
	}
	all := compact.Keep(l, 0)
	spoil(all, rec(99, "x"))
	if !slices.Equal(l, was) {
		t.Error("Keep of all shares the list")
	}
}

// P4: the same is told each time, whatever is done beside it.
func TestAnswersHangOnTheLogAlone(t *testing.T) {
	for seed := range uint32(6) {
		t.Run(fmt.Sprint(seed), func(t *testing.T) {
			t.Parallel()
			for range 2 {
				script(t, 3000, 60, bytesOf(seed%2, 100))
			}
		})
	}
	l := list("a0 b1 c2 d3 e4 f5 g6 h7 h8 g9 f10 e11 d12 c13 b14 a15")
	for range 100 {
		wantParted(t, l, 99, l[8:], []int{0, 1, 2, 3, 4, 5, 6, 7})
	}
}

// P1, P2, P5: whatever is asked, in whatever state, is answered; behind an error of Retain nothing has changed.
func TestAllArguments(t *testing.T) {
	numbers := []int{math.MinInt, math.MinInt + 1, -1, 0, 1, 2, 13, 14, 15, great - 1, great, great + 1, math.MaxInt - 1, math.MaxInt}
	lists := [][]api.Record{nil, {}, list("a0 a1"), {{}, {}}}
	for _, a := range numbers {
		for _, b := range numbers {
			lists = append(lists, []api.Record{{Offset: a, Key: "k"}, {Offset: b, Key: "k"}, {Offset: a, Seq: b}})
		}
	}
	for _, n := range numbers {
		for _, l := range lists {
			stay, gone := parted(l, n)
			wantParted(t, l, n, stay, gone)
		}
		for name, spoil := range map[string]func(d *disk.Disk){
			"whole": func(*disk.Disk) {},
			"full":  func(d *disk.Disk) { fill(t, d, 0) },
			"down":  func(d *disk.Disk) { d.Fuse(0); d.DirSync() },
		} {
			d, x := logOf(t, 0, several)
			spoil(d)
			swapped, e := compact.Run(x, n)
			if name == "down" && e != api.ErrDown || name == "full" && (e == api.ErrFull) != (n > 0) || name != "whole" && swapped != 0 || name == "whole" && e != api.OK {
				t.Errorf("%s: Run(%d): %d, %d", name, n, swapped, e)
			}
			low := x.Low()
			if e := compact.Retain(x, n); e != api.OK && x.Low() != low || (e == api.ErrArg) != (n < 0) {
				t.Errorf("%s: Retain(%d): %d, low %d", name, n, e, x.Low())
			}
		}
	}
}

// P1: behind ErrDown the calls end, and on a log whose disk is up again, too.
func TestCallsEndBehindErrDown(t *testing.T) {
	for fuse := range 30 {
		d, x := logOf(t, 0, several)
		d.Fuse(fuse)
		for range 2 {
			compact.Run(x, 99)
			compact.Retain(x, 3)
			d.Crash(fuse, nil)
		}
	}
}

// P2: a log is told apart from another of the same disk.
func TestLogsOfOneDisk(t *testing.T) {
	d := laid(t, 100000, nil)
	var logs []*logstore.Log
	for _, topic := range []string{"t", "tt", "u"} {
		x, e := logstore.Open(d, topic, 1)
		if e != api.OK {
			t.Fatal(e)
		}
		logs = append(logs, x)
	}
	for _, r := range list("a0 b1 a2 b3") {
		for _, x := range logs {
			x.Append(r)
		}
	}
	was := tells(t, logs[0])
	wantRun(t, logs[1], 99, 2, api.OK)
	if e := compact.Retain(logs[2], 1); e != api.OK {
		t.Error(e)
	}
	if !tells(t, logs[0]).same(was) || len(tells(t, logs[2]).records) != 1 || len(tells(t, logs[1]).records) != 2 {
		t.Error("one log's calls changed another one")
	}
}
