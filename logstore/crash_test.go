package logstore_test

import (
	"slices"
	"strings"
	"testing"

	"carillon/api"
	"carillon/disk"
	"carillon/logstore"
)

// history is what a log was told to be: behind a crash it is found so, but for a beginning of what was not synced.
type history struct {
	low     int
	records []api.Record // all that were appended, and not swapped away
	lasting int          // those whose Offset is below it were synced
}

// allows tells whether a log that is found may be one of this history.
func (h history) allows(x told) bool {
	at := 0
	for _, r := range h.records {
		switch {
		case r.Offset < h.low:
		case at < len(x.records) && x.records[at] == r:
			at++
		default:
			return h.low == x.low && at == len(x.records) && r.Offset >= h.lasting // here it ends
		}
	}
	return h.low == x.low && at == len(x.records)
}

// with is the history behind a record more.
func (h history) with(r api.Record) history {
	h.records = append(slices.Clone(h.records), r)
	return h
}

// swapped is the history behind a Swap of what is from base on, and below next.
func (h history) swapped(base, next int, l []api.Record) history {
	var out []api.Record
	for _, r := range h.records {
		if r.Offset < base {
			out = append(out, r)
		}
	}
	out = append(out, l...)
	for _, r := range h.records {
		if r.Offset >= next {
			out = append(out, r)
		}
	}
	h.records = out
	return h
}

// P7.5: that the histories tell apart what they must.
func TestHistories(t *testing.T) {
	h := history{2, recs(1, 2, 3, 4), 3}
	for _, c := range []struct {
		x    told
		want bool
	}{
		{told{low: 2, records: recs(2, 3, 4)}, true}, {told{low: 2, records: recs(2, 3)}, true}, {told{low: 2, records: recs(2)}, true},
		{told{low: 2}, false}, {told{low: 2, records: recs(3, 4)}, false}, {told{low: 2, records: recs(2, 4)}, false},
		{told{low: 2, records: recs(2, 3, 4, 5)}, false}, {told{low: 1, records: recs(2, 3, 4)}, false}, {told{low: 2, records: recs(1, 2, 3, 4)}, false},
	} {
		if h.allows(c.x) != c.want {
			t.Errorf("%v: %v", c.x, !c.want)
		}
	}
}

// scene is a disk with perhaps a log, and a call that is under way when the disk goes down.
type scene struct {
	limit  int
	begin  func(t *testing.T, s scene) (*disk.Disk, *logstore.Log)
	do     func(d *disk.Disk, x *logstore.Log) api.Errno
	before history
	after  history
}

// having begins with a log of these records, of which those below synced are synced.
func having(synced int, numbers ...int) func(t *testing.T, s scene) (*disk.Disk, *logstore.Log) {
	return func(t *testing.T, s scene) (*disk.Disk, *logstore.Log) {
		t.Helper()
		d, x := filled(t, s.limit)
		for i, n := range numbers {
			if n >= synced && (i == 0 || numbers[i-1] < synced) {
				x.Sync()
			}
			appended(t, x, n)
		}
		return d, x
	}
}

// filesThere begins with files, and no log that is opened.
func filesThere(have files) func(t *testing.T, s scene) (*disk.Disk, *logstore.Log) {
	return func(t *testing.T, s scene) (*disk.Disk, *logstore.Log) {
		return laid(t, 20000, have), nil
	}
}

// refusedOnce begins as another one, with a call behind it that had no room, so that what it made stays.
func refusedOnce(begin func(t *testing.T, s scene) (*disk.Disk, *logstore.Log), room int, do func(x *logstore.Log) api.Errno) func(t *testing.T, s scene) (*disk.Disk, *logstore.Log) {
	return func(t *testing.T, s scene) (*disk.Disk, *logstore.Log) {
		t.Helper()
		d, x := begin(t, s)
		d.Create("fill")
		d.Append("fill", strings.Repeat("x", d.Free()-room))
		if e := do(x); e != api.ErrFull {
			t.Fatalf("not full: %d", e)
		}
		d.Remove("fill")
		return d, x
	}
}

func opening(limit int) func(d *disk.Disk, _ *logstore.Log) api.Errno {
	return func(d *disk.Disk, _ *logstore.Log) api.Errno {
		_, e := logstore.Open(d, "t", limit)
		return e
	}
}

func appending(n int) func(_ *disk.Disk, x *logstore.Log) api.Errno {
	return func(_ *disk.Disk, x *logstore.Log) api.Errno { return x.Append(rec(n)) }
}

func trimming(low int) func(_ *disk.Disk, x *logstore.Log) api.Errno {
	return func(_ *disk.Disk, x *logstore.Log) api.Errno { return x.Trim(low) }
}

func swapping(i int, numbers ...int) func(_ *disk.Disk, x *logstore.Log) api.Errno {
	return func(_ *disk.Disk, x *logstore.Log) api.Errno { return x.Swap(i, recs(numbers...)) }
}

// scenes are calls of each kind, on logs of many kinds.
func scenes() map[string]scene {
	torn := files{"t.m": manifest(1, 0, 1, 2, 0), "t.0.1": text(rec(1)), "t.2.0": text(recs(2, 3)...) + text(rec(4))[:9], "t.0.0": text(recs(0, 1)...), "t.t": "x", "t.9.0": ""}
	three := recs(1, 2, 3)
	seven := recs(0, 2, 3, 4, 5, 7, 9)
	return map[string]scene{
		"Open of nothing":               {1, filesThere(nil), opening(1), history{}, history{}},
		"Open of strays":                {1, filesThere(files{"t.0.0": text(rec(0)), "t.t": manifest(0, 0, 0), "t.5.0": "x", "u": ""}), opening(1), history{}, history{}},
		"Open of a torn end":            {1, filesThere(torn), opening(1), history{1, three, 9}, history{1, three, 9}},
		"Append to nothing":             {1, having(0), appending(4), history{}, history{records: recs(4)}},
		"Append to what is new":         {100000, having(9, 1, 2), appending(4), history{0, recs(1, 2), 0}, history{0, recs(1, 2, 4), 0}},
		"Append to what is not":         {100000, having(1, 1, 2), appending(4), history{0, recs(1, 2), 1}, history{0, recs(1, 2, 4), 1}},
		"Append to some that is":        {100000, having(2, 0, 1, 2), appending(4), history{0, recs(0, 1, 2), 2}, history{0, recs(0, 1, 2, 4), 2}},
		"Append to a full one":          {2 * one, having(2, 0, 1), appending(4), history{0, recs(0, 1), 0}, history{0, recs(0, 1, 4), 4}},
		"Append to a full one of some":  {3 * one, having(1, 0, 1, 2), appending(4), history{0, recs(0, 1, 2), 1}, history{0, recs(0, 1, 2, 4), 4}},
		"Append again, without room":    {1, refusedOnce(having(1, 0), 40, func(x *logstore.Log) api.Errno { return x.Append(rec(4)) }), appending(4), history{0, recs(0), 0}, history{0, recs(0, 4), 4}},
		"Append beyond what was made":   {1, refusedOnce(having(1, 0), 40, func(x *logstore.Log) api.Errno { return x.Append(rec(4)) }), appending(5), history{0, recs(0), 0}, history{0, recs(0, 5), 5}},
		"Append where a segment is new": {1, refusedOnce(having(1, 0), 50, func(x *logstore.Log) api.Errno { return x.Append(rec(4)) }), appending(4), history{0, recs(0), 4}, history{0, recs(0, 4), 4}},
		"Trim of no segment":            {2 * one, having(9, offsets(seven)...), trimming(2), history{0, seven, 9}, history{2, seven, 9}},
		"Trim of one":                   {2 * one, having(9, offsets(seven)...), trimming(4), history{0, seven, 9}, history{4, seven, 9}},
		"Trim of all closed ones":       {2 * one, having(9, offsets(seven)...), trimming(9), history{0, seven, 9}, history{9, seven, 9}},
		"Trim of all":                   {2 * one, having(9, offsets(seven)...), trimming(10), history{0, seven, 9}, history{10, seven, 9}},
		"Trim of what is not synced":    {100000, having(3, offsets(seven)...), trimming(5), history{0, seven, 3}, history{5, seven, 3}},
		"Trim again, without room":      {2 * one, refusedOnce(having(9, offsets(seven)...), 20, func(x *logstore.Log) api.Errno { return x.Trim(5) }), trimming(6), history{0, seven, 9}, history{6, seven, 9}},
		"Swap with nothing":             {2 * one, having(9, offsets(seven)...), swapping(0), history{0, seven, 9}, history{0, seven[2:], 9}},
		"Swap with some":                {2 * one, having(9, offsets(seven)...), swapping(1, 4), history{0, seven, 9}, history{0, seven, 9}.swapped(3, 5, recs(4))},
		"Swap with others":              {2 * one, having(9, offsets(seven)...), swapping(2, 6, 8), history{0, seven, 9}, history{0, seven, 9}.swapped(5, 9, recs(6, 8))},
		"Swap again, without room":      {2 * one, refusedOnce(having(9, offsets(seven)...), one+20, func(x *logstore.Log) api.Errno { return x.Swap(1, recs(3)) }), swapping(1, 4), history{0, seven, 9}, history{0, seven, 9}.swapped(3, 5, recs(4))},
		"Sync":                          {100000, having(3, 1, 2, 3, 4), func(_ *disk.Disk, x *logstore.Log) api.Errno { return x.Sync() }, history{0, recs(1, 2, 3, 4), 3}, history{0, recs(1, 2, 3, 4), 9}},
	}
}

// crashes are ways to keep nothing, some and all of what was not synced.
func crashes() [][]int {
	return [][]int{nil, keepAll(), slices.Repeat([]int{1}, 20), slices.Repeat([]int{8}, 20), slices.Repeat([]int{one}, 20), slices.Repeat([]int{one + 1}, 20), slices.Repeat([]int{one - 1, 0, 2 * one}, 7), slices.Repeat([]int{0, 1 << 30}, 10), slices.Repeat([]int{1 << 30, 0}, 10)}
}

// P7.5: the disk goes down at each act of each call, and whatever is kept of it, Open finds a log.
func TestCrashAtEachAct(t *testing.T) {
	for name, s := range scenes() {
		for fuse, done := 0, false; !done; fuse++ {
			for dirs := range 8 {
				for i, keeps := range crashes() {
					d, e := s.broken(t, fuse)
					done = e == api.OK
					d.Crash(dirs, keeps)
					s.find(t, d, e)
					if t.Failed() {
						t.Fatalf("%s: behind %d acts, %d of the names' acts kept, and of bytes %d", name, fuse, dirs, i)
					}
				}
			}
		}
	}
}

// P7.5: and the disk goes down again, at each act of that Open.
func TestCrashAtEachActOfTheNextOpen(t *testing.T) {
	for name, s := range scenes() {
		for fuse, done := 0, false; !done; fuse++ {
			for dirs := range 6 {
				for again := range 8 {
					for i, keeps := range [][]int{nil, slices.Repeat([]int{9}, 20), keepAll()} {
						d, e := s.broken(t, fuse)
						done = e == api.OK
						d.Crash(dirs, keeps)
						d.Fuse(again)
						_, fault := logstore.Open(d, "t", s.limit)
						if fault != api.OK && fault != api.ErrDown {
							t.Errorf("Open: %d", fault)
						}
						d.Crash(again*3%5, keeps)
						s.find(t, d, e)
						if t.Failed() {
							t.Fatalf("%s: behind %d acts, %d of the names' acts kept, and of bytes %d, and again behind %d", name, fuse, dirs, i, again)
						}
					}
				}
			}
		}
	}
}

// broken is the scene's disk, that went down behind so many acts of its call, or did not; the call's error.
func (s scene) broken(t *testing.T, fuse int) (*disk.Disk, api.Errno) {
	t.Helper()
	d, x := s.begin(t, s)
	d.Fuse(fuse)
	e := s.do(d, x)
	if e != api.OK && e != api.ErrDown {
		t.Fatalf("error %d", e)
	}
	return d, e
}

// find opens the log, and holds it against the history; then it goes on.
func (s scene) find(t *testing.T, d *disk.Disk, e api.Errno) {
	t.Helper()
	x, fault := logstore.Open(d, "t", s.limit)
	if fault != api.OK {
		t.Errorf("Open: %d", fault)
		return
	}
	got := tells(t, x)
	if !s.after.allows(got) && (e == api.OK || !s.before.allows(got)) {
		t.Errorf("low %d, records %v behind error %d", got.low, offsets(got.records), e)
	}
	tidy(t, d, got)
	again := opened(t, d, "t", s.limit)
	if !tells(t, again).same(got) {
		t.Errorf("%v; was %v", tells(t, again), got)
	}
	d.Remove("fill") // a crash may have brought it back
	appended(t, x, got.end, got.end+7)
	if l, _ := x.Read(got.end, 9); !slices.Equal(l, recs(got.end, got.end+7)) {
		t.Errorf("%v", offsets(l))
	}
}

// tidy looks whether the topic's files are the manifest and the segments, and no others, all of them as the log tells them.
func tidy(t *testing.T, d *disk.Disk, x told) {
	t.Helper()
	numbers := []int{x.low}
	have := found(t, d)
	for _, s := range x.segments {
		numbers = append(numbers, s.Base, s.Gen)
		name := plain{topic: "t"}.name(s)
		if text, ok := have[name]; !ok || len(text) != s.Size {
			t.Errorf("%s: %v, %d bytes; want %d", name, ok, len(text), s.Size)
		}
		delete(have, name)
	}
	if have["t.m"] != manifest(numbers...) {
		t.Errorf("manifest %q of %v", have["t.m"], numbers)
	}
	delete(have, "t.m")
	for name := range have {
		if strings.HasPrefix(name, "t.") {
			t.Errorf("a stray: %q", name)
		}
	}
}
