package compact_test

import (
	"slices"
	"testing"

	"carillon/api"
	"carillon/compact"
	"carillon/disk"
	"carillon/logstore"
)

// scene is a log, of which all lasts but the records that were appended since, and a Run of it that the disk may break off.
type scene struct {
	low      int
	segments string
	since    string
	upto     int
}

func scenes() []scene {
	return []scene{
		{0, several, "", 99},
		{0, several, "a14 c15 e16", 99},
		{0, several, "c14 -15", 7},
		{0, "0: a0 | 1: a1 | 2: a2 | 3:", "a3", 99},
		{0, "0: a0 b1 | 2: c2 d3 | 4: e4", "a5 e6 b7", 2},
		{1, "0: x0 a1 b2 | 3: a3 -4 | 5: c5", "b6 -7", 99},
		{2, "1: a1 a2 a3 | 4: b4 | 5.9: b5 c6 | 7: c7 a8", "", 99},
		{0, "0: a0 | 1: b1", "-2", 99},
		{0, "0: a0 a1", "a2", 99},
	}
}

// begin is the scene's disk and log.
func (s scene) begin(t *testing.T) (*disk.Disk, *logstore.Log) {
	t.Helper()
	d := laid(t, 100000, filesOf(s.low, parts(s.segments)))
	x := opened(t, d, 100000)
	for _, r := range list(s.since) {
		if e := x.Append(r); e != api.OK {
			t.Fatalf("Append(%d): %d", r.Offset, e)
		}
	}
	return d, x
}

// behind are the segments behind so many Swaps, the active one without what was appended since.
func (s scene) behind(swaps int) []part {
	l := parts(s.segments)
	var all []api.Record
	for _, p := range l {
		all = append(all, p.records...)
	}
	all = append(slices.DeleteFunc(all, func(r api.Record) bool { return r.Offset < s.low }), list(s.since)...)
	_, gone := parted(all, s.upto)
	for i, p := range l[:len(l)-1] {
		if swaps == 0 {
			break
		}
		if !slices.ContainsFunc(p.records, func(r api.Record) bool { return slices.Contains(gone, r.Offset) }) {
			continue
		}
		swaps--
		l[i].gen++
		l[i].records = slices.DeleteFunc(p.records, func(r api.Record) bool { return r.Offset < s.low || slices.Contains(gone, r.Offset) })
	}
	return l
}

// may tells whether a disk, behind a crash and Open, may be found so: so many Swaps have taken effect, and of what was appended since a beginning is there.
func (s scene) may(have files, swaps int) bool {
	since := list(s.since)
	for n := range len(since) + 1 {
		l := s.behind(swaps)
		active := &l[len(l)-1]
		active.records = append(active.records, since[:n]...)
		want := filesOf(s.low, l)
		same := len(want) == len(have)
		for name, text := range want {
			got, ok := have[name]
			same = same && ok && got == text
		}
		if same {
			return true
		}
	}
	return false
}

// crashes are ways to keep nothing, some and all of what was not synced.
func crashes() [][]int {
	all := 1 << 30
	return [][]int{nil, slices.Repeat([]int{all}, 20), slices.Repeat([]int{1}, 20), slices.Repeat([]int{45}, 20), slices.Repeat([]int{90}, 20), slices.Repeat([]int{0, all}, 10), slices.Repeat([]int{all, 0}, 10), slices.Repeat([]int{7, 60, 0, 130}, 5)}
}

// P8.2, P8.3: the disk goes down at each act of Run, and whatever is kept of it, the log that is found is one behind some Swaps: those that were told, and perhaps the one that was under way.
func TestCrashAtEachActOfRun(t *testing.T) {
	for _, s := range scenes() {
		for fuse, done := 0, false; !done; fuse++ {
			for dirs := range 6 {
				for i, keeps := range crashes() {
					d, x := s.begin(t)
					d.Fuse(fuse)
					n, e := compact.Run(x, s.upto)
					done = e == api.OK
					if e != api.OK && e != api.ErrDown || d.Down() == done {
						t.Fatalf("%d, %d; down %v", n, e, d.Down())
					}
					d.Crash(dirs, keeps)
					s.find(t, d, n, e)
					if t.Failed() {
						t.Fatalf("%v: behind %d acts, %d of the names' acts kept, and of bytes %d", s, fuse, dirs, i)
					}
				}
			}
		}
	}
}

// find opens the log behind a crash, holds it against what it may be, and has Run go on.
func (s scene) find(t *testing.T, d *disk.Disk, n int, e api.Errno) {
	t.Helper()
	x := opened(t, d, 100000)
	have := found(t, d)
	if !s.may(have, n) && (e == api.OK || !s.may(have, n+1)) {
		t.Errorf("segments %v, records %s behind %d, %d", x.Segments(), written(tells(t, x).records), n, e)
	}
	other := laid(t, 100000, have)
	want, fault := run(other, opened(t, other, 100000), s.upto)
	wantRun(t, x, s.upto, want, fault)
	wantFiles(t, d, found(t, other))
	idle(t, d, func() { wantRun(t, x, s.upto, 0, api.OK) })
	if l := list(s.since); fault != api.OK || e == api.OK && want != 0 && len(l) == 0 {
		t.Errorf("again: %d, %d", want, fault)
	}
}

// P8.2: Run that is broken off by the disk, again and again, ends as one that is not: what is done stays done.
func TestRunBrokenOffAgainAndAgain(t *testing.T) {
	for _, fuse := range []int{9, 10, 13, 18, 20} {
		d, x := logOf(t, 0, several)
		swapped := 0
		for range 10 {
			d.Fuse(fuse)
			n, e := compact.Run(x, 99)
			swapped += n
			if e == api.OK {
				break
			}
			d.Crash(100, nil)
			x = opened(t, d, 1)
		}
		if swapped > 3 || swapped == 0 {
			t.Errorf("fuse %d: %d swapped", fuse, swapped)
		}
		d.Fuse(-1)
		wantLog(t, d, x, 0, "0.1: | 2: c2 -3 | 4.1: e5 -6 | 7.1: f9 | 10: a10 b11 a12 g13")
	}
}

// P8.2: the disk goes down at each act of Retain: it has taken effect wholly or not at all.
func TestCrashAtEachActOfRetain(t *testing.T) {
	for most, left := range map[int]string{12: "2: c2 -3 | 4: a4 e5 -6 | 7: b7 a8 f9 | 10: a10 b11 a12 g13", 5: "7: b7 a8 f9 | 10: a10 b11 a12 g13", 0: "10: a10 b11 a12 g13"} {
		for fuse, done := 0, false; !done; fuse++ {
			for dirs := range 6 {
				for _, keeps := range crashes() {
					d, x := logOf(t, 0, several)
					d.Fuse(fuse)
					e := compact.Retain(x, most)
					done = e == api.OK
					d.Crash(dirs, keeps)
					x = opened(t, d, 1)
					if x.Low() == 0 && !done {
						wantLog(t, d, x, 0, several)
						if e := compact.Retain(x, most); e != api.OK {
							t.Error(e)
						}
					}
					wantLog(t, d, x, 14-most, left)
					if t.Failed() {
						t.Fatalf("Retain(%d), behind %d acts, %d of the names' acts kept", most, fuse, dirs)
					}
				}
			}
		}
	}
}
