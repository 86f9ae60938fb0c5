package logstore_test

import (
	"maps"
	"math"
	"slices"
	"strconv"
	"strings"
	"testing"

	"carillon/api"
	"carillon/disk"
	"carillon/logstore"
)

// P7.1 to P7.4: the chapter's examples.
func TestExamples(t *testing.T) {
	_, x := filled(t, 1, 0, 1)
	wantLog(t, x, 0, 2, []api.Segment{{Base: 0, Size: one}, {Base: 1, Size: one}}, recs(0, 1))
	if e := x.Trim(1); e != api.OK {
		t.Error(e)
	}
	wantLog(t, x, 1, 2, []api.Segment{{Base: 1, Size: one}}, recs(1))
	if e := x.Append(rec(1)); e != api.ErrOrder {
		t.Error(e)
	}
}

// P7.1 to P7.4: a log from its beginning on, with each file's name and bytes behind each call.
func TestALogsFiles(t *testing.T) {
	d := laid(t, 100000, nil)
	limit := 2 * one
	x := opened(t, d, "t", limit)
	want := empty("t")
	do := func(e api.Errno, change files, gone ...string) {
		t.Helper()
		if e != api.OK {
			t.Fatal(e)
		}
		maps.Copy(want, change)
		for _, name := range gone {
			delete(want, name)
		}
		wantFiles(t, d, want)
		if t.Failed() {
			t.FailNow()
		}
	}
	do(api.OK, nil)
	do(x.Append(rec(0)), files{"t.0.0": text(rec(0))})
	do(x.Append(rec(3)), files{"t.0.0": text(recs(0, 3)...)})
	do(x.Append(rec(7)), files{"t.7.0": text(rec(7)), "t.m": manifest(0, 0, 0, 7, 0)})
	do(x.Sync(), nil)
	do(x.Append(rec(8)), files{"t.7.0": text(recs(7, 8)...)})
	do(x.Append(rec(9)), files{"t.9.0": text(rec(9)), "t.m": manifest(0, 0, 0, 7, 0, 9, 0)})
	do(x.Append(rec(20)), files{"t.9.0": text(recs(9, 20)...)})
	do(x.Append(rec(21)), files{"t.21.0": text(rec(21)), "t.m": manifest(0, 0, 0, 7, 0, 9, 0, 21, 0)})
	wantLog(t, x, 0, 22, []api.Segment{{Base: 0, Size: 2 * one}, {Base: 7, Size: 2 * one}, {Base: 9, Size: 2 * one}, {Base: 21, Size: one}}, recs(0, 3, 7, 8, 9, 20, 21))
	do(x.Swap(1, recs(8)), files{"t.7.1": text(rec(8)), "t.m": manifest(0, 0, 0, 7, 1, 9, 0, 21, 0)}, "t.7.0")
	do(x.Swap(1, nil), files{"t.7.2": "", "t.m": manifest(0, 0, 0, 7, 2, 9, 0, 21, 0)}, "t.7.1")
	wantLog(t, x, 0, 22, []api.Segment{{Base: 0, Size: 2 * one}, {Base: 7, Gen: 2}, {Base: 9, Size: 2 * one}, {Base: 21, Size: one}}, recs(0, 3, 9, 20, 21))
	do(x.Trim(5), files{"t.m": manifest(5, 0, 0, 7, 2, 9, 0, 21, 0)})
	do(x.Trim(10), files{"t.m": manifest(10, 9, 0, 21, 0)}, "t.0.0", "t.7.2")
	wantLog(t, x, 10, 22, []api.Segment{{Base: 9, Size: 2 * one}, {Base: 21, Size: one}}, recs(20, 21))
	x = opened(t, d, "t", limit)
	do(api.OK, nil)
	do(x.Append(rec(22)), files{"t.21.0": text(recs(21, 22)...)})
	do(x.Append(rec(23)), files{"t.23.0": text(rec(23)), "t.m": manifest(10, 9, 0, 21, 0, 23, 0)})
	do(x.Sync(), nil)
	d.Crash(0, nil)
	x = opened(t, d, "t", limit)
	do(api.OK, nil)
	wantLog(t, x, 10, 24, []api.Segment{{Base: 9, Size: 2 * one}, {Base: 21, Size: 2 * one}, {Base: 23, Size: one}}, recs(20, 21, 22, 23))
}

// P7.1 to P7.4: two topics on one disk, whose names begin alike, have nothing to do with each other.
func TestTwoTopics(t *testing.T) {
	d := laid(t, 100000, files{"journal": "j"})
	x, y := opened(t, d, "t", 1), opened(t, d, "t0", 1)
	appended(t, x, 0, 1, 2)
	appended(t, y, 5, 9)
	if e := max(x.Trim(1), x.Swap(0, recs(1)), x.Sync(), y.Sync()); e != api.OK {
		t.Fatal(e)
	}
	x, y = opened(t, d, "t", 1), opened(t, d, "t0", 1)
	wantLog(t, x, 1, 3, []api.Segment{{Base: 1, Gen: 1, Size: one}, {Base: 2, Size: one}}, recs(1, 2))
	wantLog(t, y, 0, 10, []api.Segment{{Base: 0, Size: one}, {Base: 9, Size: one}}, recs(5, 9))
	wantFiles(t, d, files{"journal": "j", "t.m": manifest(1, 1, 1, 2, 0), "t.1.1": text(rec(1)), "t.2.0": text(rec(2)),
		"t0.m": manifest(0, 0, 0, 9, 0), "t0.0.0": text(rec(5)), "t0.9.0": text(rec(9))})
	d.Crash(0, nil)
	wantLog(t, opened(t, d, "t", 1), 1, 3, []api.Segment{{Base: 1, Gen: 1, Size: one}, {Base: 2, Size: one}}, recs(1, 2))
	wantLog(t, opened(t, d, "t0", 1), 0, 10, []api.Segment{{Base: 0, Size: one}, {Base: 9, Size: one}}, recs(5, 9))
}

// P7.2: a segment of just limit bytes is full, one of a byte fewer is not.
func TestAppendAtTheLimit(t *testing.T) {
	for _, c := range []struct {
		limit int
		bases []int
	}{
		{1, []int{0, 1, 2, 3}},
		{one - 1, []int{0, 1, 2, 3}},
		{one, []int{0, 1, 2, 3}},
		{one + 1, []int{0, 2}},
		{2*one - 1, []int{0, 2}},
		{2 * one, []int{0, 2}},
		{2*one + 1, []int{0, 3}},
		{3 * one, []int{0, 3}},
		{3*one + 1, []int{0}},
		{math.MaxInt, []int{0}},
	} {
		_, x := filled(t, c.limit, 0, 1, 2, 3)
		var bases []int
		size := 0
		for _, s := range x.Segments() {
			bases = append(bases, s.Base)
			size += s.Size
			if s.Gen != 0 {
				t.Errorf("Gen %d", s.Gen)
			}
		}
		if !slices.Equal(bases, c.bases) || size != 4*one {
			t.Errorf("limit %d: bases %v, %d bytes; want %v", c.limit, bases, size, c.bases)
		}
	}
}

// P7.2: an empty segment takes a record whatever the limit is; and a log that is opened goes by its new limit.
func TestAppendByLimit(t *testing.T) {
	d, x := filled(t, 1)
	wide := rec(0)
	wide.Value = strings.Repeat("v", api.MaxValue)
	if e := x.Append(wide); e != api.OK || len(x.Segments()) != 1 {
		t.Error(e, x.Segments())
	}
	x = opened(t, d, "t", 100000)
	appended(t, x, 1)
	if len(x.Segments()) != 1 {
		t.Error(x.Segments())
	}
	x = opened(t, d, "t", 1)
	appended(t, x, 2)
	if len(x.Segments()) != 2 || x.Segments()[1].Base != 2 {
		t.Error(x.Segments())
	}
}

// wrong are records that are not right, in each of their parts.
func wrong() []api.Record {
	var l []api.Record
	for _, spoil := range []func(r *api.Record){
		func(r *api.Record) { r.Offset = -1 },
		func(r *api.Record) { r.Offset = math.MinInt },
		func(r *api.Record) { r.Offset = great + 1 },
		func(r *api.Record) { r.Offset = math.MaxInt },
		func(r *api.Record) { r.Seq = -1 },
		func(r *api.Record) { r.Seq = great + 1 },
		func(r *api.Record) { r.Producer = strings.Repeat("p", api.MaxWord+1) },
		func(r *api.Record) { r.Key = strings.Repeat("k", api.MaxKey+1) },
		func(r *api.Record) { r.Value = strings.Repeat("v", api.MaxValue+1) },
	} {
		r := rec(1000)
		spoil(&r)
		l = append(l, r)
	}
	return l
}

// edges are right records, at the edges of what they may have.
func edges() []api.Record {
	return []api.Record{
		{},
		{Offset: 1, Producer: strings.Repeat("p", api.MaxWord), Seq: great, Key: strings.Repeat("k", api.MaxKey), Value: strings.Repeat("v", api.MaxValue)},
		{Offset: 5, Producer: "\x00", Key: "\xff\n", Value: text(rec(9))},
		{Offset: great - 1},
		{Offset: great, Seq: great},
	}
}

// P7.2, P7.3: records at their edges come back as they were.
func TestAppendEdges(t *testing.T) {
	for _, limit := range []int{1, 300, 100000} {
		d, x := filled(t, limit)
		for _, r := range edges() {
			if e := x.Append(r); e != api.OK {
				t.Fatal(e)
			}
		}
		for range 2 {
			if l, e := x.Read(0, 9); !slices.Equal(l, edges()) || e != api.OK {
				t.Errorf("%v, %d", offsets(l), e)
			}
			if x.End() != great+1 {
				t.Errorf("End %d", x.End())
			}
			x = opened(t, d, "t", limit)
		}
		refused(t, d, x, api.ErrArg, func() api.Errno { return x.Append(rec(great + 1)) })
		refused(t, d, x, api.ErrOrder, func() api.Errno { return x.Append(rec(great)) })
	}
}

// P7.2, P2: what is refused changes nothing; ErrArg is told ahead of ErrOrder.
func TestAppendRefused(t *testing.T) {
	for _, limit := range []int{1, 2 * one, 100000} {
		d, x := filled(t, limit, 2, 5)
		for _, r := range wrong() {
			refused(t, d, x, api.ErrArg, func() api.Errno { return x.Append(r) })
			if r.Offset == 1000 {
				r.Offset = 0
				refused(t, d, x, api.ErrArg, func() api.Errno { return x.Append(r) })
			}
		}
		for n := range 6 {
			refused(t, d, x, api.ErrOrder, func() api.Errno { return x.Append(rec(n)) })
		}
	}
}

// P7.2: at End() and beyond it, with the low mark, a Base or a record at the end.
func TestAppendFromTheEndOn(t *testing.T) {
	for _, gap := range []int{0, 1, 2, 1000, 1 << 50} {
		for name, have := range map[string]files{
			"nothing":        empty("t"),
			"the low mark":   {"t.m": manifest(9, 0, 0), "t.0.0": text(rec(3))},
			"the Base":       {"t.m": manifest(0, 0, 0, 9, 0), "t.0.0": text(rec(3)), "t.9.0": ""},
			"a record":       {"t.m": manifest(0, 0, 0), "t.0.0": text(recs(3, 8)...)},
			"all of the end": {"t.m": manifest(9, 8, 0), "t.8.0": text(recs(8)...)},
		} {
			d := laid(t, 1000, have)
			x := opened(t, d, "t", 100000)
			end := 9
			if name == "nothing" {
				end = 0
			}
			if x.End() != end {
				t.Errorf("%s: End %d", name, x.End())
			}
			if end > 0 {
				refused(t, d, x, api.ErrOrder, func() api.Errno { return x.Append(rec(end - 1)) })
			}
			had := len(tells(t, x).records)
			appended(t, x, end+gap)
			if l, e := x.Read(end, 9); !slices.Equal(l, recs(end+gap)) || e != api.OK || x.End() != end+gap+1 || len(tells(t, x).records) != had+1 {
				t.Errorf("%s: %v, %d, End %d", name, offsets(l), e, x.End())
			}
		}
	}
}

// P7.2: the acts of an Append, each in its turn: without a new segment one, with it Sync; Create, Sync; Create, Append, Sync, Rename, DirSync; Append.
func TestAppendActs(t *testing.T) {
	for limit, want := range map[int]int{100000: 1, 1: 9} {
		got := acts(t, func() (*disk.Disk, func() api.Errno) {
			d, x := filled(t, limit, 0)
			return d, func() api.Errno { return x.Append(rec(5)) }
		})
		if got != want {
			t.Errorf("limit %d: %d acts; want %d", limit, got, want)
		}
	}
	stays := []files{
		{"t.0.0": text(rec(0)), "t.m": manifest(0, 0, 0)},
		{"t.0.0": text(rec(0)), "t.m": manifest(0, 0, 0)},
		{"t.0.0": text(rec(0)), "t.m": manifest(0, 0, 0), "t.5.0": ""},
		{"t.0.0": text(rec(0)), "t.m": manifest(0, 0, 0), "t.5.0": ""},
		{"t.0.0": text(rec(0)), "t.m": manifest(0, 0, 0), "t.5.0": "", "t.t": ""},
		{"t.0.0": text(rec(0)), "t.m": manifest(0, 0, 0), "t.5.0": "", "t.t": manifest(0, 0, 0, 5, 0)},
		{"t.0.0": text(rec(0)), "t.m": manifest(0, 0, 0), "t.5.0": "", "t.t": manifest(0, 0, 0, 5, 0)},
		{"t.0.0": text(rec(0)), "t.m": manifest(0, 0, 0, 5, 0), "t.5.0": ""},
		{"t.0.0": text(rec(0)), "t.m": manifest(0, 0, 0, 5, 0), "t.5.0": ""},
	}
	for n, want := range stays {
		d, x := filled(t, 1, 0)
		d.Fuse(n)
		if e := x.Append(rec(5)); e != api.ErrDown {
			t.Errorf("behind %d acts: %d", n, e)
		}
		d.Crash(100, keepAll())
		wantFiles(t, d, want)
	}
}

// P7.2: a closed segment was synced ahead of its being closed, and the new one is there with its manifest.
func TestAppendSyncsWhatItCloses(t *testing.T) {
	d, x := filled(t, 3*one, 0, 1, 2, 3, 4)
	d.Crash(0, nil)
	wantFiles(t, d, files{"t.0.0": text(recs(0, 1, 2)...), "t.3.0": "", "t.m": manifest(0, 0, 0, 3, 0)})
	x = opened(t, d, "t", 3*one)
	wantLog(t, x, 0, 3, []api.Segment{{Base: 0, Size: 3 * one}, {Base: 3}}, recs(0, 1, 2))
}

// P7.2: what was synced lasts; what was appended since may be lost.
func TestSync(t *testing.T) {
	d, x := filled(t, 100000, 0, 1)
	if e := x.Sync(); e != api.OK {
		t.Fatal(e)
	}
	appended(t, x, 2, 3)
	d.Crash(0, []int{one + 1})
	x = opened(t, d, "t", 100000)
	wantLog(t, x, 0, 3, []api.Segment{{Size: 3 * one}}, recs(0, 1, 2))
	if got := acts(t, func() (*disk.Disk, func() api.Errno) {
		d, x := filled(t, 1, 0)
		return d, x.Sync
	}); got != 1 {
		t.Errorf("%d acts", got)
	}
}

// roomFor is a disk with a log of one record, of limit 1, that has this much room left.
func roomFor(t *testing.T, left int) (*disk.Disk, *logstore.Log, files) {
	t.Helper()
	d, x := filled(t, 1, 0)
	d.Create("fill")
	d.Append("fill", strings.Repeat("x", d.Free()-left))
	all := found(t, d)
	return d, x, all
}

// P7.2: no room for the manifest's bytes: the log is as it was, what was made stays; with room it goes on.
func TestAppendWithoutRoomForTheManifest(t *testing.T) {
	for _, left := range []int{0, 1, 47} {
		d, x, all := roomFor(t, left)
		was := tells(t, x)
		for range 2 { // the second time there is something to be removed
			if e := x.Append(rec(5)); e != api.ErrFull {
				t.Errorf("%d left: %d", left, e)
			}
			all["t.5.0"], all["t.t"] = "", ""
			wantFiles(t, d, all)
			if !tells(t, x).same(was) {
				t.Errorf("%v; was %v", tells(t, x), was)
			}
		}
		refused(t, d, x, api.ErrOrder, func() api.Errno { return x.Append(rec(0)) })
		d.Remove("fill")
		appended(t, x, 7)
		wantFiles(t, d, files{"t.0.0": text(rec(0)), "t.5.0": "", "t.7.0": text(rec(7)), "t.m": manifest(0, 0, 0, 7, 0)})
		x = opened(t, d, "t", 1)
		wantFiles(t, d, files{"t.0.0": text(rec(0)), "t.7.0": text(rec(7)), "t.m": manifest(0, 0, 0, 7, 0)})
		wantLog(t, x, 0, 8, []api.Segment{{Size: one}, {Base: 7, Size: one}}, recs(0, 7))
	}
}

// P7.2: no room for the record's bytes: the log has the new segment, that is the active one, but not the record.
func TestAppendWithoutRoomForTheRecord(t *testing.T) {
	// With the new manifest's 48 bytes the old one's 32 are free again.
	for _, left := range []int{48, 49, 16 + one - 1} {
		d, x, all := roomFor(t, left)
		all["t.5.0"], all["t.m"] = "", manifest(0, 0, 0, 5, 0)
		for range 2 {
			if e := x.Append(rec(5)); e != api.ErrFull || d.Free() != left-16 {
				t.Errorf("%d left: %d, %d are", left, e, d.Free())
			}
			wantFiles(t, d, all)
			wantLog(t, x, 0, 5, []api.Segment{{Size: one}, {Base: 5}}, recs(0))
		}
		refused(t, d, x, api.ErrOrder, func() api.Errno { return x.Append(rec(4)) })
		y := opened(t, d, "t", 1)
		wantLog(t, y, 0, 5, []api.Segment{{Size: one}, {Base: 5}}, recs(0))
		d.Remove("fill")
		appended(t, x, 6) // behind the Base, in the segment that is there
		wantLog(t, x, 0, 7, []api.Segment{{Size: one}, {Base: 5, Size: one}}, recs(0, 6))
	}
	d, x, _ := roomFor(t, 16+one)
	appended(t, x, 5)
	if d.Free() != 0 {
		t.Errorf("%d bytes are free", d.Free())
	}
}

// P7.2: no room for a record in a segment that is not full: nothing is done.
func TestAppendWithoutRoom(t *testing.T) {
	d, x := filled(t, 100000, 0)
	d.Create("fill")
	d.Append("fill", strings.Repeat("x", d.Free()-one+1))
	refused(t, d, x, api.ErrFull, func() api.Errno { return x.Append(rec(1)) })
	d.Truncate("fill", 0)
	appended(t, x, 1)
	wantLog(t, x, 0, 2, []api.Segment{{Size: 2 * one}}, recs(0, 1))
}

// crowd makes files till the disk may have so many more.
func crowd(t *testing.T, d *disk.Disk, left int) {
	t.Helper()
	for n := api.MaxFiles - left - len(found(t, d)); n > 0; n-- {
		if e := d.Create("crowd" + strconv.Itoa(n)); e != api.OK {
			t.Fatal(e)
		}
	}
}

// P7.2: no room for a file: for the segment's, for the manifest's.
func TestAppendWithoutFiles(t *testing.T) {
	for left := range 2 {
		d, x := filled(t, 1, 0)
		crowd(t, d, left)
		want, was := found(t, d), tells(t, x)
		if left == 1 {
			want["t.5.0"] = ""
		}
		for range 2 {
			if e := x.Append(rec(5)); e != api.ErrFull {
				t.Errorf("%d files left: %d", left, e)
			}
			wantFiles(t, d, want)
			if !tells(t, x).same(was) {
				t.Errorf("%v; was %v", tells(t, x), was)
			}
		}
		d.Remove("crowd1")
		d.Remove("crowd2")
		appended(t, x, 5)
		wantLog(t, x, 0, 6, []api.Segment{{Size: one}, {Base: 5, Size: one}}, recs(0, 5))
	}
}

// P7.3: the first most records, from an offset on, that are not below the low mark.
func TestRead(t *testing.T) {
	for _, limit := range []int{1, 2 * one, 3 * one, 100000} {
		d, x := filled(t, limit, 1, 3, 4, 9, 10, 11, 30)
		all := []int{1, 3, 4, 9, 10, 11, 30}
		for _, low := range []int{0, 1, 2, 3, 4, 5, 9, 10, 29, 30, 31} {
			if e := x.Trim(low); e != api.OK {
				t.Fatal(e)
			}
			for _, offset := range []int{math.MinInt, -1, 0, 1, 2, 3, 4, 5, 8, 9, 10, 11, 12, 29, 30, 31, 32, great, great + 1, math.MaxInt} {
				for _, most := range []int{math.MinInt, -1, 0, 1, 2, 3, 6, 7, 8, math.MaxInt} {
					var want []int
					for _, n := range all {
						if n >= offset && n >= low && len(want) < most {
							want = append(want, n)
						}
					}
					d.Fuse(0)
					l, e := x.Read(offset, most)
					d.Fuse(-1)
					if !slices.Equal(l, recs(want...)) || e != api.OK {
						t.Fatalf("limit %d, low %d: Read(%d, %d): %v, %d; want %v", limit, low, offset, most, offsets(l), e, want)
					}
				}
			}
		}
	}
}

// P7.3: beside the disk's error there is nothing.
func TestReadOfADownDisk(t *testing.T) {
	d, x := filled(t, 1, 0, 1)
	d.Fuse(0)
	x.Sync()
	for _, most := range []int{0, 1, 9} {
		if l, e := x.Read(0, most); len(l) != 0 || e != api.ErrDown {
			t.Errorf("%v, %d", l, e)
		}
	}
	if e := x.Append(rec(2)); e != api.ErrDown {
		t.Errorf("Append: %d", e)
	}
	if e := x.Sync(); e != api.ErrDown {
		t.Errorf("Sync: %d", e)
	}
	if e := x.Trim(1); e != api.ErrDown {
		t.Errorf("Trim: %d", e)
	}
	if e := x.Swap(0, nil); e != api.ErrDown {
		t.Errorf("Swap: %d", e)
	}
}

// P7.3: End is the greatest one of three numbers, each of which may be it.
func TestEnd(t *testing.T) {
	for _, c := range []struct {
		numbers []int
		active  []api.Record
		want    int
	}{
		{[]int{0, 0, 0}, nil, 0},
		{[]int{0, 0, 0}, recs(0), 1},
		{[]int{0, 0, 0}, recs(0, 4), 5},
		{[]int{4, 0, 0}, recs(0, 4), 5},
		{[]int{5, 0, 0}, recs(0, 4), 5},
		{[]int{6, 0, 0}, recs(0, 4), 6},
		{[]int{6, 0, 0}, nil, 6},
		{[]int{6, 6, 0}, nil, 6},
		{[]int{6, 5, 0}, recs(5), 6},
		{[]int{7, 5, 0}, recs(5), 7},
		{[]int{7, 5, 0}, recs(5, 8), 9},
		{[]int{great, great, 0}, recs(great), great + 1},
	} {
		name := "t." + strconv.Itoa(c.numbers[1]) + ".0"
		d := laid(t, 1000, files{"t.m": manifest(c.numbers...), name: text(c.active...)})
		x := opened(t, d, "t", 1)
		if x.End() != c.want || x.Low() != c.numbers[0] {
			t.Errorf("%v, %v: End %d, Low %d", c.numbers, offsets(c.active), x.End(), x.Low())
		}
	}
	d := laid(t, 1000, files{"t.m": manifest(2, 0, 0, 7, 0), "t.0.0": text(rec(5)), "t.7.0": ""})
	if x := opened(t, d, "t", 1); x.End() != 7 {
		t.Errorf("the Base of an empty one: %d", x.End())
	}
}

// trimmed is a log of four segments, 0, 3, 5 and 9, each of two records but the last one.
func trimmed(t *testing.T) (*disk.Disk, *logstore.Log) {
	t.Helper()
	return filled(t, 2*one, 0, 2, 3, 4, 5, 7, 9)
}

// P7.4: what a Trim leaves: which segments, which files, which records.
func TestTrim(t *testing.T) {
	segments := []api.Segment{{Base: 0, Size: 2 * one}, {Base: 3, Size: 2 * one}, {Base: 5, Size: 2 * one}, {Base: 9, Size: one}}
	texts := files{"t.0.0": text(recs(0, 2)...), "t.3.0": text(recs(3, 4)...), "t.5.0": text(recs(5, 7)...), "t.9.0": text(rec(9))}
	for low, gone := range []int{0, 0, 0, 1, 1, 2, 2, 2, 2, 3, 3} {
		for _, again := range []int{0, 1, 3, 4} { // a Trim ahead of it
			d, x := trimmed(t)
			if e := max(x.Trim(min(again, low)), x.Trim(low)); e != api.OK {
				t.Fatal(e)
			}
			var left []int
			for _, n := range []int{0, 2, 3, 4, 5, 7, 9} {
				if n >= low {
					left = append(left, n)
				}
			}
			numbers, want := []int{low}, files{}
			for _, s := range segments[gone:] {
				numbers = append(numbers, s.Base, 0)
				name := "t." + strconv.Itoa(s.Base) + ".0"
				want[name] = texts[name]
			}
			want["t.m"] = manifest(numbers...)
			wantLog(t, x, low, 10, segments[gone:], recs(left...))
			wantFiles(t, d, want)
			wantLog(t, opened(t, d, "t", 2*one), low, 10, segments[gone:], recs(left...))
			d.Crash(0, nil)
			y := opened(t, d, "t", 2*one) // what was trimmed is gone whatever is kept
			if y.Low() != low || len(y.Segments()) != 4-gone {
				t.Errorf("Trim(%d): Low %d, %v", low, y.Low(), y.Segments())
			}
			appended(t, x, 10)
			if t.Failed() {
				t.Fatalf("Trim(%d) behind %d", low, again)
			}
		}
	}
}

// P7.4: a Trim to the low mark or below it does nothing; one above End() is refused.
func TestTrimRefused(t *testing.T) {
	d, x := trimmed(t)
	for _, mark := range []int{0, 4, 10} {
		if e := x.Trim(mark); e != api.OK {
			t.Fatal(e)
		}
		for _, low := range []int{math.MinInt, -1, 0, mark - 1, mark} {
			if low <= mark {
				refused(t, d, x, api.OK, func() api.Errno { return x.Trim(low) })
			}
		}
		for _, low := range []int{11, 12, great, great + 1, math.MaxInt} {
			refused(t, d, x, api.ErrArg, func() api.Errno { return x.Trim(low) })
		}
	}
	d, x = filled(t, 1)
	refused(t, d, x, api.ErrArg, func() api.Errno { return x.Trim(1) })
	refused(t, d, x, api.OK, func() api.Errno { return x.Trim(0) })
}

// P7.4, P7.5: behind a record of the greatest Offset End is beyond what a low mark may be.
func TestTrimOfTheGreatest(t *testing.T) {
	d, x := filled(t, 1, 0, great)
	refused(t, d, x, api.ErrArg, func() api.Errno { return x.Trim(great + 1) })
	if e := x.Trim(great); e != api.OK {
		t.Fatal(e)
	}
	for range 2 {
		wantLog(t, x, great, great+1, []api.Segment{{Base: great, Size: one}}, recs(great))
		refused(t, d, x, api.ErrArg, func() api.Errno { return x.Trim(great + 1) })
		x = opened(t, d, "t", 1)
	}
}

// P7.4: the acts of a Trim: the manifest is written, and then the files go, the first one first.
func TestTrimActs(t *testing.T) {
	for low, want := range map[int]int{0: 0, 2: 5, 3: 6, 5: 7, 9: 8, 10: 8} {
		got := acts(t, func() (*disk.Disk, func() api.Errno) {
			d, x := trimmed(t)
			return d, func() api.Errno { return x.Trim(low) }
		})
		if got != want {
			t.Errorf("Trim(%d): %d acts; want %d", low, got, want)
		}
	}
	for n := range 7 {
		d, x := trimmed(t)
		want := found(t, d)
		x.Sync()
		d.Fuse(n)
		if e := x.Trim(6); e != api.ErrDown {
			t.Errorf("behind %d acts: %d", n, e)
		}
		d.Crash(100, keepAll())
		switch {
		case n == 1:
			want["t.t"] = ""
		case n == 2, n == 3:
			want["t.t"] = manifest(6, 5, 0, 9, 0)
		case n >= 4:
			want["t.m"] = manifest(6, 5, 0, 9, 0)
		}
		if n >= 6 {
			delete(want, "t.0.0")
		}
		wantFiles(t, d, want)
	}
}

// P7.4: a disk without room for the manifest: the log is as it was, and may be trimmed again.
func TestTrimWithoutRoom(t *testing.T) {
	d, x := trimmed(t)
	was, want := tells(t, x), found(t, d)
	d.Create("fill")
	d.Append("fill", strings.Repeat("x", d.Free()-39))
	for range 2 {
		if e := x.Trim(6); e != api.ErrFull {
			t.Error(e)
		}
		if !tells(t, x).same(was) {
			t.Errorf("%v; was %v", tells(t, x), was)
		}
	}
	d.Remove("fill")
	want["t.t"] = ""
	wantFiles(t, d, want)
	delete(want, "t.t")
	crowd(t, d, 0)
	d.Remove("t.t")
	d.Create("crowd")
	if e := x.Trim(6); e != api.ErrFull || !tells(t, x).same(was) {
		t.Errorf("%d, %v; was %v", e, tells(t, x), was)
	}
	for name := range found(t, d) {
		if strings.HasPrefix(name, "crowd") {
			d.Remove(name)
		}
	}
	wantFiles(t, d, want)
	if e := x.Trim(6); e != api.OK {
		t.Error(e)
	}
	wantLog(t, x, 6, 10, []api.Segment{{Base: 5, Size: 2 * one}, {Base: 9, Size: one}}, recs(7, 9))
}
