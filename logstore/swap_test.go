package logstore_test

import (
	"maps"
	"math"
	"slices"
	"strconv"
	"strings"
	"testing"

	"carillon/api"
	"carillon/disk"
)

// P7.4: the first, a middle and the last closed segment, with no records, some, all, and others than it had.
func TestSwap(t *testing.T) {
	bases := []int{0, 3, 5, 9}
	for i, choices := range [][][]int{
		{nil, {0}, {2}, {1}, {0, 2}, {0, 1, 2}},
		{nil, {3}, {4}, {3, 4}},
		{nil, {5}, {8}, {6, 7}, {5, 6, 7, 8}},
	} {
		for _, numbers := range choices {
			d, x := trimmed(t)
			segments, want := x.Segments(), found(t, d)
			if e := x.Swap(i, recs(numbers...)); e != api.OK {
				t.Fatalf("Swap(%d, %v): %d", i, numbers, e)
			}
			segments[i].Gen, segments[i].Size = 1, len(numbers)*one
			var left []int
			for _, n := range []int{0, 2, 3, 4, 5, 7, 9} {
				if n < bases[i] || n >= bases[i+1] {
					left = append(left, n)
				}
			}
			left = slices.Sorted(slices.Values(append(left, numbers...)))
			wantLog(t, x, 0, 10, segments, recs(left...))
			delete(want, "t."+strconv.Itoa(bases[i])+".0")
			want["t."+strconv.Itoa(bases[i])+".1"] = text(recs(numbers...)...)
			gens := []int{0, 0, 0}
			gens[i] = 1
			want["t.m"] = manifest(0, 0, gens[0], 3, gens[1], 5, gens[2], 9, 0)
			wantFiles(t, d, want)
			x.Sync()
			d.Crash(0, nil)
			wantLog(t, opened(t, d, "t", 2*one), 0, 10, segments, recs(left...))
			if t.Failed() {
				t.Fatalf("Swap(%d, %v)", i, numbers)
			}
		}
	}
}

// P7.4: what is swapped in is told as it was given, and not below the low mark.
func TestSwapBelowTheLowMark(t *testing.T) {
	_, x := trimmed(t)
	if e := x.Trim(4); e != api.OK {
		t.Fatal(e)
	}
	other := rec(4)
	other.Value, other.Key, other.Producer, other.Seq = "another", "", "q", great
	if e := x.Swap(0, []api.Record{rec(3), other}); e != api.OK {
		t.Fatal(e)
	}
	wantLog(t, x, 4, 10, []api.Segment{{Base: 3, Gen: 1, Size: one + len(text(other))}, {Base: 5, Size: 2 * one}, {Base: 9, Size: one}}, append([]api.Record{other}, recs(5, 7, 9)...))
}

// P7.4: a segment that is active, or is none.
func TestSwapOfNone(t *testing.T) {
	d, x := trimmed(t)
	for _, i := range []int{3, 4, 5, math.MaxInt, -1, -2, math.MinInt} {
		for _, l := range [][]api.Record{nil, recs(9), wrong()} {
			refused(t, d, x, api.ErrNone, func() api.Errno { return x.Swap(i, l) })
		}
	}
	d, x = filled(t, 100000, 0, 1)
	refused(t, d, x, api.ErrNone, func() api.Errno { return x.Swap(0, nil) })
}

// P7.4: records that are not right, do not rise, are below its Base, or reach the next one's.
func TestSwapOfWrong(t *testing.T) {
	d, x := trimmed(t)
	for _, r := range wrong() {
		if r.Offset == 1000 {
			r.Offset = 3
		}
		refused(t, d, x, api.ErrArg, func() api.Errno { return x.Swap(1, []api.Record{r}) })
		refused(t, d, x, api.ErrArg, func() api.Errno { return x.Swap(1, []api.Record{rec(3), r}) })
		if r.Offset == 3 {
			refused(t, d, x, api.ErrArg, func() api.Errno { return x.Swap(1, []api.Record{r, rec(4)}) })
		}
	}
	for _, numbers := range [][]int{{2}, {0}, {2, 3}, {2, 3, 4}, {5}, {3, 5}, {3, 4, 5}, {3, 6}, {great}, {3, great}, {3, 3}, {4, 3}, {4, 4}, {3, 4, 3}, {3, 4, 4}, {3, 2}, {5, 3}} {
		refused(t, d, x, api.ErrArg, func() api.Errno { return x.Swap(1, recs(numbers...)) })
	}
	for _, numbers := range [][]int{{9}, {7, 9}, {4}, {4, 5}} {
		refused(t, d, x, api.ErrArg, func() api.Errno { return x.Swap(2, recs(numbers...)) })
	}
	refused(t, d, x, api.ErrArg, func() api.Errno { return x.Swap(0, recs(3)) })
	refused(t, d, x, api.ErrArg, func() api.Errno { return x.Swap(0, recs(-1)) })
}

// P7.4: again and again: the Gen goes on, and digits have no noughts ahead.
func TestSwapAgain(t *testing.T) {
	d, x := trimmed(t)
	for gen := 1; gen <= 101; gen++ {
		if e := x.Swap(0, recs(gen%3)); e != api.OK {
			t.Fatal(e)
		}
		if s := x.Segments()[0]; s != (api.Segment{Base: 0, Gen: gen, Size: one}) {
			t.Fatal(s)
		}
		if s, e := d.Read("t.0." + strconv.Itoa(gen)); s != text(rec(gen%3)) || e != api.OK || len(found(t, d)) != 5 {
			t.Fatalf("%d bytes, %d; files %q", len(s), e, found(t, d))
		}
		if gen%10 == 0 {
			x = opened(t, d, "t", 2*one)
		}
	}
}

// P7.4, P7.5: behind the greatest Gen there is none that a manifest may have.
func TestSwapOfTheGreatestGen(t *testing.T) {
	for _, gen := range []int{great - 1, great} {
		d := laid(t, 1000, files{"t.m": manifest(0, 0, gen, 3, great), "t.0." + strconv.Itoa(gen): text(rec(0)), "t.3." + strconv.Itoa(great): ""})
		x := opened(t, d, "t", 1)
		if gen == great-1 {
			if e := x.Swap(0, nil); e != api.OK {
				t.Fatal(e)
			}
			wantFiles(t, d, files{"t.m": manifest(0, 0, great, 3, great), "t.0." + strconv.Itoa(great): "", "t.3." + strconv.Itoa(great): ""})
		}
		refused(t, d, x, api.ErrArg, func() api.Errno { return x.Swap(0, nil) })
		opened(t, d, "t", 1)
	}
}

// P7.4: a name that is too long for the disk: its error, and the log is as it was.
func TestSwapOfATooLongName(t *testing.T) {
	topic := strings.Repeat("t", api.MaxWord)
	base := great - 1
	name := topic + "." + strconv.Itoa(base) + "."
	d := laid(t, 1000, files{topic + ".m": manifest(base, base, 98, great, 0), name + "98": text(rec(base)), topic + "." + strconv.Itoa(great) + ".0": ""})
	x := opened(t, d, topic, 1)
	if e := x.Swap(0, recs(base)); e != api.OK {
		t.Fatal(e)
	}
	refused(t, d, x, api.ErrName, func() api.Errno { return x.Swap(0, nil) })
	wantLog(t, x, base, great, []api.Segment{{Base: base, Gen: 99, Size: one}, {Base: great}}, recs(base))
	appended(t, x, great)
	wantLog(t, opened(t, d, topic, 1), base, great+1, []api.Segment{{Base: base, Gen: 99, Size: one}, {Base: great, Size: one}}, recs(base, great))
}

// P7.4: the acts of a Swap: Create, perhaps Append, Sync; Create, Append, Sync, Rename, DirSync; Remove.
func TestSwapActs(t *testing.T) {
	for n, want := range []int{8, 9, 9} {
		got := acts(t, func() (*disk.Disk, func() api.Errno) {
			d, x := trimmed(t)
			return d, func() api.Errno { return x.Swap(1, recs(3, 4)[:n]) }
		})
		if got != want {
			t.Errorf("%d records: %d acts; want %d", n, got, want)
		}
	}
	after := manifest(0, 0, 0, 3, 1, 5, 0, 9, 0)
	for n, change := range []files{
		{}, {"t.3.1": ""}, {"t.3.1": text(rec(4))}, {"t.3.1": text(rec(4))},
		{"t.3.1": text(rec(4)), "t.t": ""}, {"t.3.1": text(rec(4)), "t.t": after}, {"t.3.1": text(rec(4)), "t.t": after},
		{"t.3.1": text(rec(4)), "t.m": after}, {"t.3.1": text(rec(4)), "t.m": after},
	} {
		d, x := trimmed(t)
		x.Sync()
		want := found(t, d)
		maps.Copy(want, change)
		d.Fuse(n)
		if e := x.Swap(1, recs(4)); e != api.ErrDown {
			t.Errorf("behind %d acts: %d", n, e)
		}
		d.Crash(100, keepAll())
		wantFiles(t, d, want)
	}
}

// P7.4: a disk without room, for each act that asks for it: the log is as it was, and may be swapped again.
func TestSwapWithoutRoom(t *testing.T) {
	for _, left := range []int{0, one - 1, one, one + 1, one + 79} {
		d, x := trimmed(t)
		was, want := tells(t, x), found(t, d)
		d.Create("fill")
		d.Append("fill", strings.Repeat("x", d.Free()-left))
		for range 2 {
			if e := x.Swap(1, recs(4)); e != api.ErrFull || !tells(t, x).same(was) {
				t.Fatalf("%d left: %d, %v; was %v", left, e, tells(t, x), was)
			}
		}
		d.Remove("fill")
		want["t.3.1"] = ""
		if left >= one {
			want["t.3.1"], want["t.t"] = text(rec(4)), ""
		}
		wantFiles(t, d, want)
		if e := x.Swap(1, recs(3)); e != api.OK {
			t.Error(e)
		}
		wantLog(t, x, 0, 10, []api.Segment{{Size: 2 * one}, {Base: 3, Gen: 1, Size: one}, {Base: 5, Size: 2 * one}, {Base: 9, Size: one}}, recs(0, 2, 3, 5, 7, 9))
		if _, e := d.Read("t.t"); e != api.ErrNone {
			t.Error(e)
		}
	}
	d, x := trimmed(t)
	d.Create("fill")
	d.Append("fill", strings.Repeat("x", d.Free()-one-80))
	if e := x.Swap(1, recs(4)); e != api.OK {
		t.Error(e)
	}
}

// P7.4: a disk without a file more: for the segment, for the manifest.
func TestSwapWithoutFiles(t *testing.T) {
	for left := range 2 {
		d, x := trimmed(t)
		crowd(t, d, left)
		was, want := tells(t, x), found(t, d)
		if left == 1 {
			want["t.3.1"] = text(rec(4))
		}
		for range 2 {
			if e := x.Swap(1, recs(4)); e != api.ErrFull || !tells(t, x).same(was) {
				t.Fatalf("%d, %v; was %v", e, tells(t, x), was)
			}
			wantFiles(t, d, want)
		}
		d.Remove("crowd1")
		d.Remove("crowd2")
		if e := x.Swap(1, recs(4)); e != api.OK {
			t.Error(e)
		}
	}
}
