package logstore_test

import (
	"maps"
	"slices"
	"strings"
	"testing"

	"carillon/api"
	"carillon/disk"
	"carillon/logstore"
)

// both are a log and a plain one, each on its own disk, that are played the same, and what is to be found behind a crash.
type both struct {
	x   *logstore.Log
	d   *disk.Disk
	p   plain
	was history
	may []history // what else it may be found to be, if a call was under way when the disk went down
}

// step is one of a script: what is done, and with what.
type step struct{ kind, a, b, c int }

// script plays bytes to both, four a step.
func script(t *testing.T, room, limit int, s []byte) {
	t.Helper()
	b := &both{d: laid(t, room, nil), p: plain{laid(t, room, nil), "t", limit}}
	if e := b.open(t); e != api.OK {
		if room >= 32 || e != api.ErrFull {
			t.Fatalf("Open: %d", e)
		}
		return
	}
	for ; len(s) >= 4; s = s[4:] {
		do := step{int(s[0]), int(s[1]), int(s[2]), int(s[3])}
		got, want := b.play(t, do)
		if got != want {
			t.Fatalf("step %v: error %d; want %d", do, got, want)
		}
		if got == api.ErrDown {
			b.crash(t, do.a%8, []int{do.b % 50, do.c % 90, do.a, do.b, do.c, do.a * 9, 9}[:do.c%8])
		}
		b.alike(t)
		if t.Failed() {
			t.Fatalf("behind step %v", do)
		}
	}
}

// play does a step on both, and tells their errors.
func (b *both) play(t *testing.T, do step) (got, want api.Errno) {
	t.Helper()
	switch do.kind % 24 {
	case 0, 1, 2, 3, 4, 5, 6:
		r := api.Record{Offset: b.x.End() + do.a%5 - 1, Producer: strings.Repeat("p", do.b%24), Seq: do.c, Key: "k", Value: strings.Repeat("v", do.b%40)}
		return b.add(r)
	case 7, 8:
		got, want = b.x.Sync(), b.p.sync()
		if got == api.OK {
			b.was.lasting = b.x.End()
		}
	case 9, 10:
		return b.trim(b.x.Low() + do.a%12 - 2)
	case 11, 12, 13:
		return b.swap(t, do)
	case 14:
		offset, most := b.x.Low()+do.a%40-10, do.b%12-1
		if l, e := b.x.Read(offset, most); e != api.OK || !slices.Equal(l, b.p.read(offset, most)) {
			t.Errorf("Read(%d, %d): %v, %d; want %v", offset, most, offsets(l), e, offsets(b.p.read(offset, most)))
		}
	case 15:
		b.p.limit = do.a%200 + 1
		got = b.open(t)
		return got, got
	case 16:
		b.d.Fuse(do.a % 20)
		b.p.d.Fuse(do.a % 20)
	case 17, 18:
		b.crash(t, do.a%8, []int{do.a, do.b, do.c, do.a, do.b}[:do.c%6])
	case 19, 20:
		name := []string{"t.t", "t.5.0", "t.x", "t.0.1", "fill", "t.7.0"}[do.a%6]
		return b.twice(func(d *disk.Disk) api.Errno { return d.Create(name) })
	case 21:
		size := min(b.d.Free(), do.a*4)
		return b.twice(func(d *disk.Disk) api.Errno { return d.Append("fill", strings.Repeat("x", max(size, 0))) })
	case 22:
		return b.twice(func(d *disk.Disk) api.Errno { return d.Remove("fill") })
	case 23:
		return b.spoilt(t, do)
	}
	return got, want
}

func (b *both) twice(do func(d *disk.Disk) api.Errno) (got, want api.Errno) {
	return do(b.d), do(b.p.d)
}

func (b *both) add(r api.Record) (got, want api.Errno) {
	segments, end := b.x.Segments(), b.x.End()
	got, want = b.x.Append(r), b.p.add(r)
	switch got {
	case api.OK:
		b.was = b.was.with(r)
	case api.ErrDown:
		b.may = []history{b.was.with(r)}
	}
	if (got == api.OK || got == api.ErrFull) && segments[len(segments)-1].Size >= b.p.limit {
		b.was.lasting = end // as what was active was synced
	}
	return got, want
}

func (b *both) trim(low int) (got, want api.Errno) {
	then := b.was
	then.low = max(low, then.low)
	got, want = b.x.Trim(low), b.p.trim(low)
	switch got {
	case api.OK:
		b.was = then
	case api.ErrDown:
		b.may = []history{then}
	}
	return got, want
}

func (b *both) swap(t *testing.T, do step) (got, want api.Errno) {
	t.Helper()
	segments := b.x.Segments()
	i := do.a%(len(segments)+1) - 1
	base, next := 0, 0
	if i >= 0 && i < len(segments)-1 {
		base, next = segments[i].Base, segments[i+1].Base
	}
	var l []api.Record
	for n := base; n < next && len(l) < 5; n += 1 + do.c%3 {
		if do.b>>(len(l)%8)&1 == 1 {
			l = append(l, rec(n))
		}
	}
	if do.c%16 == 15 { // perhaps below, perhaps behind
		l = append(l, rec(base+do.b%9))
	}
	then := b.was.swapped(base, next, l)
	got, want = b.x.Swap(i, l), b.p.swap(i, l)
	switch got {
	case api.OK:
		b.was = then
	case api.ErrDown:
		b.may = []history{then}
	}
	return got, want
}

// spoilt has both opened with a manifest that is none, or a torn end.
func (b *both) spoilt(t *testing.T, do step) (got, want api.Errno) {
	t.Helper()
	name := "t.m"
	if do.a%2 == 0 {
		segments := b.x.Segments()
		name = b.p.name(segments[len(segments)-1])
	}
	whole, _ := b.d.Read(name)
	b.d.Fuse(-1) // as what is spoilt here must be mended here
	b.p.d.Fuse(-1)
	got, want = b.twice(func(d *disk.Disk) api.Errno { return d.Append(name, strings.Repeat("x", do.b%9)) })
	if got != api.OK || want != api.OK {
		return got, want
	}
	if name != "t.m" || do.b%9 == 0 {
		got = b.open(t)
		return got, got
	}
	if b.open(t) != api.ErrForm {
		t.Error("a manifest that is none was taken")
	}
	return b.twice(func(d *disk.Disk) api.Errno { return max(d.Truncate(name, len(whole)), d.Sync(name)) })
}

// open opens both, which must be told the same error.
func (b *both) open(t *testing.T) api.Errno {
	t.Helper()
	x, e := logstore.Open(b.d, "t", b.p.limit)
	if want := b.p.open(); e != want || (x == nil) != (e != api.OK) {
		t.Fatalf("Open: %v, %d; want %d", x, e, want)
	}
	if e == api.OK {
		b.x = x
	}
	return e
}

// crash has both crash, and be opened anew: what is found must be what the history says.
func (b *both) crash(t *testing.T, dirs int, keeps []int) {
	t.Helper()
	b.d.Crash(dirs, keeps)
	b.p.d.Crash(dirs, keeps)
	if e := b.open(t); e != api.OK {
		t.Fatalf("Open behind a crash: %d", e)
	}
	got := tells(t, b.x)
	if !slices.ContainsFunc(append(b.may, b.was), func(h history) bool { return h.allows(got) }) {
		t.Errorf("behind a crash low %d, records %v; of %v, or of %v", got.low, offsets(got.records), b.was, b.may)
	}
	tidy(t, b.d, got)
	b.was, b.may = history{got.low, got.records, got.end}, nil
}

// alike holds what the two tell, and their disks, against each other.
func (b *both) alike(t *testing.T) {
	t.Helper()
	if b.d.Down() || b.p.d.Down() {
		t.Fatal("down")
	}
	if got, want := tells(t, b.x), b.p.now(); !got.same(want) {
		t.Errorf("low %d, end %d, segments %v, records %v; want %d, %d, %v, %v", got.low, got.end, got.segments, offsets(got.records), want.low, want.end, want.segments, offsets(want.records))
	}
	if got, want := found(t, b.d), found(t, b.p.d); !maps.Equal(got, want) {
		wantFiles(t, b.d, want)
	}
}

// bytesOf is a script of so many steps, the same one for the same seed.
func bytesOf(seed uint32, steps int) []byte {
	out := make([]byte, 4*steps)
	for i := range out {
		seed = seed*1664525 + 1013904223
		out[i] = byte(seed >> 24)
	}
	return out
}

// P7.1 to P7.5: long scripts of all calls, right and wrong, on disks with much room and little, that go down and crash, held against a plain log, and its history.
func TestScripts(t *testing.T) {
	for seed := range uint32(240) {
		room := []int{100000, 3000, 700, 300}[seed%4] + int(seed)
		script(t, room, []int{1, 60, 150, 100000}[seed/4%4], bytesOf(seed*7919, 200))
	}
	for room := range 40 {
		script(t, room, 1, bytesOf(uint32(room), 30))
	}
}

// P1, P7.1 to P7.5: scripts of all kinds.
func FuzzScript(f *testing.F) {
	f.Add(uint16(0), uint16(1), []byte{0, 1, 0, 0, 0, 1, 5, 0, 7, 0, 0, 0, 9, 3, 0, 0, 17, 1, 2, 3})
	f.Add(uint16(1000), uint16(1), bytesOf(1, 100))
	f.Add(uint16(300), uint16(100), bytesOf(2, 300))
	f.Fuzz(func(t *testing.T, room, limit uint16, s []byte) {
		script(t, int(room), int(limit)+1, s[:min(len(s), 2000)])
	})
}
