package compact_test

import (
	"math"
	"slices"
	"strconv"
	"strings"
	"testing"

	"carillon/api"
	"carillon/compact"
	"carillon/disk"
	"carillon/logstore"
)

// several is a log: all of its first segment is superseded, none of its second, some of the others.
const several = "0: a0 b1 | 2: c2 -3 | 4: a4 e5 -6 | 7: b7 a8 f9 | 10: a10 b11 a12 g13"

// P8.2: segments that have superseded records are laid anew, and no others.
func TestRun(t *testing.T) {
	for _, c := range []struct {
		low      int
		segments string
		upto     int
		swapped  int
		then     string
	}{
		{0, several, 99, 3, "0.1: | 2: c2 -3 | 4.1: e5 -6 | 7.1: f9 | 10: a10 b11 a12 g13"},
		{0, several, 14, 3, "0.1: | 2: c2 -3 | 4.1: e5 -6 | 7.1: f9 | 10: a10 b11 a12 g13"},
		{0, several, 8, 3, "0.1: | 2: c2 -3 | 4.1: e5 -6 | 7.1: a8 f9 | 10: a10 b11 a12 g13"},
		{0, several, 7, 2, "0.1: | 2: c2 -3 | 4.1: e5 -6 | 7: b7 a8 f9 | 10: a10 b11 a12 g13"},
		{0, several, 4, 1, "0.1: | 2: c2 -3 | 4: a4 e5 -6 | 7: b7 a8 f9 | 10: a10 b11 a12 g13"},
		{0, several, 1, 1, "0.1: b1 | 2: c2 -3 | 4: a4 e5 -6 | 7: b7 a8 f9 | 10: a10 b11 a12 g13"},
		{0, several, 0, 0, several}, {0, several, -1, 0, several}, {0, several, math.MinInt, 0, several},
		{0, several, math.MaxInt, 3, "0.1: | 2: c2 -3 | 4.1: e5 -6 | 7.1: f9 | 10: a10 b11 a12 g13"},

		// without records, without closed segments, with segments without records
		{0, "0:", 9, 0, "0:"},
		{3, "0:", 9, 0, "0:"},
		{0, "0: | 3:", 9, 0, "0: | 3:"},
		{0, "0: a0 a1 a2", 9, 0, "0: a0 a1 a2"},
		{0, "0: | 2: a2 | 3: | 4: a4 | 5:", 9, 1, "0: | 2.1: | 3: | 4: a4 | 5:"},

		// what supersedes stands in the same segment, in the next one, in the active one
		{0, "0: a0 a1 b2 | 3: c3", 9, 1, "0.1: a1 b2 | 3: c3"},
		{0, "0: a0 b1 | 2: a2 | 3: c3", 9, 1, "0.1: b1 | 2: a2 | 3: c3"},
		{0, "0: a0 b1 | 2: c2 | 3: a3", 9, 1, "0.1: b1 | 2: c2 | 3: a3"},
		{0, "0: a0 | 1: a1 | 2: a2 | 3: a3", 9, 3, "0.1: | 1.1: | 2.1: | 3: a3"},
		{0, "0: a0 | 1: a1 | 2: a2 | 3: a3", 2, 2, "0.1: | 1.1: | 2: a2 | 3: a3"},
		{0, "0: a0 | 1: b1 | 2: c2 | 3: d3", 9, 0, "0: a0 | 1: b1 | 2: c2 | 3: d3"},

		// empty keys are never superseded
		{0, "0: -0 -1 | 2: -2 | 3: -3", 9, 0, "0: -0 -1 | 2: -2 | 3: -3"},
		{0, "0: -0 a1 -2 | 3: a3 -4 | 5: -5", 9, 1, "0.1: -0 -2 | 3: a3 -4 | 5: -5"},

		// the active segment stays as it is
		{0, "0: b0 | 1: a1 b2 a3 b4", 9, 1, "0.1: | 1: a1 b2 a3 b4"},
		{0, "0: c0 | 1: a1 b2 a3 b4", 9, 0, "0: c0 | 1: a1 b2 a3 b4"},

		// what is below the low mark neither counts nor is laid anew
		{1, "0: a0 b1 | 2: a2", 9, 0, "0: a0 b1 | 2: a2"},
		{1, "0: x0 a1 b2 | 3: a3", 9, 1, "0.1: b2 | 3: a3"},
		{2, "0: x0 a1 b2 | 3: a3 b4", 9, 1, "0.1: | 3: a3 b4"},
		{2, "0: x0 a1 b2 | 3: a3 c4", 9, 0, "0: x0 a1 b2 | 3: a3 c4"},
		{3, "0: x0 a1 b2 | 4: a4 b5", 9, 0, "0: x0 a1 b2 | 4: a4 b5"},
		{6, "4: a4 a5 a6 b7 | 8: a8 | 9: b9", 9, 1, "4.1: | 8: a8 | 9: b9"},
		{4, "2: -2 -3 a4 -5 | 6: a6 | 8: a8", 9, 2, "2.1: -5 | 6.1: | 8: a8"},
		{7, "0: a0 | 5: a5 a6", 9, 0, "0: a0 | 5: a5 a6"},

		// a Gen goes on by one; Offsets have gaps
		{0, "0.7: a0 b9 | 20.3: c30 | 40.1: d41 a50 | 60.9: d70 a80", 99, 2, "0.8: b9 | 20.3: c30 | 40.2: | 60.9: d70 a80"},
		{0, "0.9: a0 b8 | 9.99: a9 c10 | 12: a12", 99, 2, "0.10: b8 | 9.100: c10 | 12: a12"},
	} {
		d, x := logOf(t, c.low, c.segments)
		wantRun(t, x, c.upto, c.swapped, api.OK)
		wantLog(t, d, x, c.low, c.then)
		idle(t, d, func() { wantRun(t, x, c.upto, 0, api.OK) })
		d.Crash(0, nil)
		wantLog(t, d, opened(t, d, 1), c.low, c.then)
		if t.Failed() {
			t.Fatalf("Run(%d) of %s, from %d on", c.upto, c.segments, c.low)
		}
	}
}

// P8.2: at each upto, of each low mark, what the chapter says, on the disk too.
func TestRunAtEachUpto(t *testing.T) {
	for _, segments := range []string{several, "0: a0 a1 a2 | 3: b3 a4 | 6: a6 b7 | 8: -8 -9 b10 | 11: c11 | 12: a12 c13", "0: a0 b1 c2 | 3: c3 b4 a5 | 6: b6 a7 c8 | 9: a9 c10 b11"} {
		for low := range 12 {
			for upto := -1; upto < 16; upto++ {
				d, x := logOf(t, 0, segments)
				other, y := logOf(t, 0, segments)
				if e := max(x.Trim(low), y.Trim(low)); e != api.OK {
					t.Fatal(e)
				}
				end := x.End()
				n, e := compact.Run(x, upto)
				if want, fault := run(other, y, upto); n != want || e != fault || e != api.OK {
					t.Errorf("%d, %d; want %d, %d", n, e, want, fault)
				}
				if a, b := tells(t, x), tells(t, y); !a.same(b) || a.low != low || a.end != end {
					t.Errorf("%v; want %v", a, b)
				}
				wantFiles(t, d, found(t, other))
				idle(t, d, func() { wantRun(t, x, upto, 0, api.OK) })
				if t.Failed() {
					t.Fatalf("Run(%d) of %s, from %d on", upto, segments, low)
				}
			}
		}
	}
}

// P8.2, P8.3: Run again, higher and lower, and behind what was appended since.
func TestRunAgain(t *testing.T) {
	d, x := logOf(t, 0, "0: a0 b1 a2 | 3: b3 a4 | 5: c5")
	wantRun(t, x, 1, 1, api.OK)
	wantLog(t, d, x, 0, "0.1: b1 a2 | 3: b3 a4 | 5: c5")
	wantRun(t, x, 0, 0, api.OK)
	wantRun(t, x, 2, 1, api.OK)
	wantLog(t, d, x, 0, "0.2: a2 | 3: b3 a4 | 5: c5")
	wantRun(t, x, 99, 1, api.OK)
	wantLog(t, d, x, 0, "0.3: | 3: b3 a4 | 5: c5")
	for _, r := range list("a6 c7") { // limit 1: each closes the segment ahead
		if e := x.Append(r); e != api.OK {
			t.Fatal(e)
		}
	}
	wantLog(t, d, x, 0, "0.3: | 3: b3 a4 | 5: c5 | 6: a6 | 7: c7")
	wantRun(t, x, 5, 1, api.OK)
	wantLog(t, d, x, 0, "0.3: | 3.1: b3 | 5: c5 | 6: a6 | 7: c7")
	wantRun(t, x, 6, 1, api.OK)
	wantLog(t, d, x, 0, "0.3: | 3.1: b3 | 5.1: | 6: a6 | 7: c7")
	wantRun(t, x, 99, 0, api.OK)
	if e := x.Trim(6); e != api.OK {
		t.Fatal(e)
	}
	wantRun(t, x, 99, 0, api.OK)
	wantLog(t, d, x, 6, "6: a6 | 7: c7")
}

// P8.2: all that x keeps is read, however many segments and records there are.
func TestRunOfMany(t *testing.T) {
	d := laid(t, 1000000, nil)
	x := opened(t, d, 1000)
	var all []api.Record
	for n := range 2500 {
		r := rec(2*n, "k"+strconv.Itoa(n*n%97))
		all = append(all, r)
		if e := x.Append(r); e != api.OK {
			t.Fatal(e)
		}
	}
	segments := x.Segments()
	active := segments[len(segments)-1].Base
	wantRun(t, x, 1<<60, len(segments)-1, api.OK)
	var want []api.Record
	for i, r := range all {
		if r.Offset >= active || !goes(all, i, 1<<60) {
			want = append(want, r)
		}
	}
	if got := tells(t, x); !slices.Equal(got.records, want) || got.end != 4999 {
		t.Errorf("%s; want %s", written(got.records), written(want))
	}
	wantRun(t, x, 1<<60, 0, api.OK)
}

// P8.2: Offsets up to the greatest, and upto among them.
func TestRunOfGreatOffsets(t *testing.T) {
	const segments = "9007199254740985: a9007199254740985 b9007199254740986 | 9007199254740988: a9007199254740989 b9007199254740990 | 9007199254740991: a9007199254740991"
	const then = "9007199254740985.1: | 9007199254740988.1: b9007199254740990 | 9007199254740991: a9007199254740991"
	for upto, swapped := range map[int]int{math.MaxInt: 2, great: 2, great - 1: 2, great - 2: 1, great - 6: 0} {
		d, x := logOf(t, great-6, segments)
		wantRun(t, x, upto, swapped, api.OK)
		if swapped == 2 {
			wantLog(t, d, x, great-6, then)
		}
	}
}

// P8.2: what Run asks of the disk: the acts of its Swaps, and no others.
func TestRunActs(t *testing.T) {
	const swaps = 8 + 9 + 9 // the first one is without records
	for fuse := range swaps {
		d, x := logOf(t, 0, several)
		d.Fuse(fuse)
		want := 0
		if fuse >= 8 {
			want = 1 + (fuse-8)/9
		}
		wantRun(t, x, 99, want, api.ErrDown)
		if !d.Down() {
			t.Errorf("behind %d acts it is not down", fuse)
		}
	}
	d, x := logOf(t, 0, several)
	d.Fuse(swaps)
	wantRun(t, x, 99, 3, api.OK)
	if d.Down() {
		t.Error("it is down")
	}
}

// P8.2: a disk that is down: its error, and nothing swapped.
func TestRunOnADiskThatIsDown(t *testing.T) {
	for _, segments := range []string{several, "0:", "0: a0 a1", "0: a0 | 1: b1"} {
		d, x := logOf(t, 0, segments)
		d.Fuse(0)
		d.DirSync()
		for _, upto := range []int{99, 0, -1} {
			wantRun(t, x, upto, 0, api.ErrDown)
		}
		d.Crash(0, nil)
		wantLog(t, d, opened(t, d, 1), 0, segments)
	}
}

// blank are so many records of the empty key, from an Offset on.
func blank(from, n int) string {
	out := ""
	for i := range n {
		out += " -" + strconv.Itoa(from+i)
	}
	return out
}

// P8.2: a disk that has no room at each Swap: how many were swapped ahead of it; the log is as these left it, and Run goes on once there is room.
func TestRunWithoutRoom(t *testing.T) {
	stays := []string{"", blank(20, 7), blank(40, 12), blank(60, 17)} // each asks for more room than the ones ahead leave
	gone := []string{"a0 b1 c2", "a30 b31", "a55", "a80"}
	states := make([]string, 5)
	for n := range states {
		for i := range stays {
			if i < n {
				states[n] += strconv.Itoa(20*i) + ".1:" + stays[i] + "|"
			} else {
				states[n] += strconv.Itoa(20*i) + ":" + stays[i] + " " + gone[i] + "|"
			}
		}
		states[n] += "100: a100 b101 c102"
	}
	seen := map[int]int{}
	for left := 0; left < 1200; left += 3 {
		want, room := 0, left
		for want < len(stays) && len(text(list(stays[want])))+len(manifest(0, parts(states[0]))) <= room {
			room += len(text(list(gone[want])))
			want++
		}
		d, x := logOf(t, 0, states[0])
		fill(t, d, left)
		seen[want]++
		if want == len(stays) {
			wantRun(t, x, 999, want, api.OK)
			continue
		}
		wantRun(t, x, 999, want, api.ErrFull)
		wantRun(t, x, 999, 0, api.ErrFull)
		d.Remove("fill")
		if got := tells(t, x); !got.same(tells(t, opened(t, d, 1))) {
			t.Errorf("%d left: segments %v", left, got.segments)
		}
		wantLog(t, d, x, 0, states[want])
		wantRun(t, x, 999, len(stays)-want, api.OK)
		wantLog(t, d, x, 0, states[len(stays)])
		if t.Failed() {
			t.Fatalf("%d left", left)
		}
	}
	for n := range 5 {
		if seen[n] == 0 {
			t.Errorf("%d swapped: never", n)
		}
	}
}

// P8.2: a disk without a file more: for the segment, for the manifest.
func TestRunWithoutFiles(t *testing.T) {
	for left := range 3 {
		d, x := logOf(t, 0, several)
		for n := range api.MaxFiles - 6 - left {
			if e := d.Create("crowd" + strconv.Itoa(n)); e != api.OK {
				t.Fatal(e)
			}
		}
		if left == 2 {
			wantRun(t, x, 99, 3, api.OK)
			continue
		}
		was := tells(t, x)
		wantRun(t, x, 99, 0, api.ErrFull)
		if !tells(t, x).same(was) {
			t.Errorf("%v; was %v", tells(t, x), was)
		}
		d.Remove("crowd0")
		d.Remove("crowd1")
		wantRun(t, x, 99, 3, api.OK)
	}
}

// P8.2: a Gen whose name is too long for the disk, one that no manifest may have: the error, with what was swapped ahead of it, and none behind it.
func TestRunOfTheLastGen(t *testing.T) {
	topic := strings.Repeat("t", api.MaxWord)
	const base = great - 9
	l := []part{{base, 0, list("a9007199254740982")}, {base + 1, 99, list("a9007199254740983")}, {base + 2, 0, list("a9007199254740984")}, {base + 3, 0, list("a9007199254740985")}}
	d := laid(t, 10000, nil)
	for name, s := range filesOf(base, l) {
		name = topic + name[1:]
		if e := max(d.Create(name), d.Append(name, s), d.Sync(name)); e != api.OK {
			t.Fatal(e)
		}
	}
	x, e := logstore.Open(d, topic, 1)
	if e != api.OK {
		t.Fatal(e)
	}
	wantRun(t, x, 1<<60, 1, api.ErrName)
	wantRun(t, x, 1<<60, 0, api.ErrName)
	if s := x.Segments(); s[0].Gen != 1 || s[0].Size != 0 || s[1].Gen != 99 || s[2].Gen != 0 {
		t.Error(s)
	}

	const segments = "0: a0 | 1.9007199254740991: a1 b2 | 3: a3 | 4: a4"
	d, x = logOf(t, 0, segments)
	wantRun(t, x, 1, 1, api.OK)
	wantRun(t, x, 99, 0, api.ErrArg)
	wantLog(t, d, x, 0, "0.1: | 1.9007199254740991: a1 b2 | 3: a3 | 4: a4")
}

// P8.2: Retain on a log of several segments.
func TestRetain(t *testing.T) {
	for _, c := range []struct {
		low      int
		segments string
		most     int
		then     int
		left     string
	}{
		{0, "0: a0 | 1: a1 | 2: a2 | 3: a3 | 4: a4", 1, 4, "4: a4"},
		{0, several, 14, 0, several}, {0, several, 15, 0, several}, {0, several, math.MaxInt, 0, several},
		{0, several, 13, 1, several},
		{0, several, 12, 2, "2: c2 -3 | 4: a4 e5 -6 | 7: b7 a8 f9 | 10: a10 b11 a12 g13"},
		{0, several, 11, 3, "2: c2 -3 | 4: a4 e5 -6 | 7: b7 a8 f9 | 10: a10 b11 a12 g13"},
		{0, several, 5, 9, "7: b7 a8 f9 | 10: a10 b11 a12 g13"},
		{0, several, 4, 10, "10: a10 b11 a12 g13"}, {0, several, 1, 13, "10: a10 b11 a12 g13"}, {0, several, 0, 14, "10: a10 b11 a12 g13"},

		// from a low mark on: just End less it, one more, one less
		{3, "2: c2 -3 | 4: a4 e5 | 6: b6", 4, 3, "2: c2 -3 | 4: a4 e5 | 6: b6"},
		{3, "2: c2 -3 | 4: a4 e5 | 6: b6", 5, 3, "2: c2 -3 | 4: a4 e5 | 6: b6"},
		{3, "2: c2 -3 | 4: a4 e5 | 6: b6", 7, 3, "2: c2 -3 | 4: a4 e5 | 6: b6"},
		{3, "2: c2 -3 | 4: a4 e5 | 6: b6", 8, 3, "2: c2 -3 | 4: a4 e5 | 6: b6"},
		{3, "2: c2 -3 | 4: a4 e5 | 6: b6", 3, 4, "4: a4 e5 | 6: b6"},
		{3, "2: c2 -3 | 4: a4 e5 | 6: b6", 0, 7, "6: b6"},

		// Offsets are counted, not records: with gaps, an active segment without records, a low mark that is End
		{0, "0: a0 a1 | 50: b50 | 90: c99", 10, 90, "90: c99"},
		{0, "0: a0 a1 | 50: b50 | 90: c99", 11, 89, "50: b50 | 90: c99"},
		{0, "0: a0 a1 | 50:", 1, 49, "0: a0 a1 | 50:"}, {0, "0: a0 a1 | 50:", 0, 50, "50:"},
		{7, "0: a0 | 5: a5", 0, 7, "5: a5"}, {7, "5: a5", 9, 7, "5: a5"},
		{0, "0:", 0, 0, "0:"}, {0, "0:", 9, 0, "0:"},
		{0, "0: a9007199254740990", 0, great, "0: a9007199254740990"}, {0, "0: a9007199254740991", 1, great, "0: a9007199254740991"},
	} {
		d, x := logOf(t, c.low, c.segments)
		other, y := logOf(t, c.low, c.segments)
		do := func() {
			if e := compact.Retain(x, c.most); e != api.OK {
				t.Errorf("%d", e)
			}
		}
		if c.then == c.low {
			idle(t, d, do)
		} else {
			do()
			wantLog(t, d, x, c.then, c.left)
			idle(t, d, do)
		}
		if e := y.Trim(max(y.Low(), c.then)); e != api.OK || x.Low() != c.then {
			t.Errorf("Trim(%d): %d; low %d", c.then, e, x.Low())
		}
		wantFiles(t, d, found(t, other))
		if t.Failed() {
			t.Fatalf("Retain(%d) of %s, from %d on", c.most, c.segments, c.low)
		}
	}
}

// P8.2, P6: most below 0, on any disk: ErrArg, and nothing is changed.
func TestRetainOfLessThanNone(t *testing.T) {
	for _, most := range []int{-1, -2, -14, math.MinInt + 1, math.MinInt} {
		d, x := logOf(t, 0, several)
		idle(t, d, func() {
			if e := compact.Retain(x, most); e != api.ErrArg {
				t.Errorf("Retain(%d): %d", most, e)
			}
		})
		wantLog(t, d, x, 0, several)
		d.Fuse(0)
		d.DirSync()
		if e := compact.Retain(x, most); e != api.ErrArg {
			t.Errorf("Retain(%d) where the disk is down: %d", most, e)
		}
	}
}

// P8.2: Trim's errors.
func TestRetainTellsTheErrorOfTrim(t *testing.T) {
	for name, c := range map[string]struct {
		segments string
		spoil    func(d *disk.Disk)
		want     api.Errno
	}{
		"down":        {several, func(d *disk.Disk) { d.Fuse(0) }, api.ErrDown},
		"down later":  {several, func(d *disk.Disk) { d.Fuse(5) }, api.ErrDown},
		"full":        {several, func(d *disk.Disk) { fill(t, d, 20) }, api.ErrFull},
		"above great": {"0: a9007199254740991", func(*disk.Disk) {}, api.ErrArg},
	} {
		d, x := logOf(t, 0, c.segments)
		c.spoil(d)
		if e := compact.Retain(x, 0); e != c.want {
			t.Errorf("%s: %d; want %d", name, e, c.want)
		}
		if c.want != api.ErrDown && x.Low() != 0 {
			t.Errorf("%s: low %d", name, x.Low())
		}
	}
}
