package compact_test

import (
	"maps"
	"strings"
	"testing"

	"carillon/api"
	"carillon/compact"
	"carillon/disk"
	"carillon/logstore"
)

// both are two logs, each on its own disk, that are played the same: one by the package, one as the chapter tells it.
type both struct {
	d, other *disk.Disk
	x, y     *logstore.Log
	limit    int
}

// step is one of a script: what is done, and with what.
type step struct{ kind, a, b, c int }

// script plays bytes to both, four a step.
func script(t *testing.T, room, limit int, s []byte) {
	t.Helper()
	b := &both{d: laid(t, room, nil), other: laid(t, room, nil), limit: limit}
	if b.open(t) != api.OK {
		return
	}
	for ; len(s) >= 4; s = s[4:] {
		do := step{int(s[0]), int(s[1]), int(s[2]), int(s[3])}
		if b.play(t, do) == api.ErrDown {
			b.crash(t, do)
		}
		if got, want := found(t, b.d), found(t, b.other); !maps.Equal(got, want) {
			wantFiles(t, b.d, want)
		}
		if got, want := tells(t, b.x), tells(t, b.y); !got.same(want) {
			t.Errorf("%v; want %v", got, want)
		}
		if t.Failed() {
			t.Fatalf("behind step %v", do)
		}
	}
}

// play does a step on both, and tells their error.
func (b *both) play(t *testing.T, do step) api.Errno {
	t.Helper()
	switch do.kind % 16 {
	case 0, 1, 2, 3, 4, 5:
		r := rec(b.x.End()+do.a%3, []string{"", "a", "b", "c", "kk"}[do.b%5])
		r.Value = strings.Repeat("v", do.c%30)
		return same(t, b.x.Append(r), b.y.Append(r))
	case 6, 7, 8, 9:
		return b.run(t, b.x.Low()+do.a%64-4)
	case 10:
		most := do.a%40 - 2
		want := api.ErrArg
		if most >= 0 {
			want = b.y.Trim(b.y.End() - most)
		}
		return same(t, compact.Retain(b.x, most), want)
	case 11:
		return same(t, b.x.Sync(), b.y.Sync())
	case 12:
		b.d.Fuse(do.a % 40)
		b.other.Fuse(do.a % 40)
	case 13:
		b.crash(t, do)
	case 14:
		s := strings.Repeat("x", max(min(b.d.Free(), do.a*5), 0)) // a crash may bring back more than there is room for
		b.d.Create("fill")
		b.other.Create("fill")
		return same(t, b.d.Append("fill", s), b.other.Append("fill", s))
	case 15:
		b.limit = do.a + 1
		if do.b%2 == 0 {
			return same(t, b.d.Remove("fill"), b.other.Remove("fill"))
		}
		return b.open(t)
	}
	return api.OK
}

func same(t *testing.T, got, want api.Errno) api.Errno {
	t.Helper()
	if got != want {
		t.Errorf("error %d; want %d", got, want)
	}
	return got
}

// run holds Run against the plain one, and looks at what follows.
func (b *both) run(t *testing.T, upto int) api.Errno {
	t.Helper()
	was := tells(t, b.x)
	n, e := compact.Run(b.x, upto)
	if want, fault := run(b.other, b.y, upto); n != want || e != fault {
		t.Errorf("Run(%d): %d, %d; want %d, %d", upto, n, e, want, fault)
	}
	if e != api.OK {
		return e
	}
	follows(t, was, tells(t, b.x), upto)
	if n, e := compact.Run(b.x, upto); n != 0 || e != api.OK {
		t.Errorf("again: %d, %d", n, e)
	}
	return api.OK
}

// open opens both anew.
func (b *both) open(t *testing.T) api.Errno {
	t.Helper()
	x, e := logstore.Open(b.d, "t", b.limit)
	y, want := logstore.Open(b.other, "t", b.limit)
	if e == api.OK {
		b.x, b.y = x, y
	}
	return same(t, e, want)
}

// crash has both crash, and be opened anew.
func (b *both) crash(t *testing.T, do step) {
	t.Helper()
	keeps := []int{do.a, do.b, do.c, do.a * 3, do.b % 50, 1 << 20}[:do.c%7]
	b.d.Crash(do.a%8, keeps)
	b.other.Crash(do.a%8, keeps)
	if e := b.open(t); e != api.OK {
		t.Fatalf("Open behind a crash: %d", e)
	}
}

// bytesOf is a script of so many steps, the same one for the same seed.
func bytesOf(seed uint32, steps int) []byte {
	out := make([]byte, 4*steps)
	for i := range out {
		seed = seed*1664525 + 1013904223
		out[i] = byte(seed >> 24)
	}
	return out
}

// P8.1 to P8.3: long scripts, on disks with much room and little, that go down and crash.
func TestScripts(t *testing.T) {
	for seed := range uint32(120) {
		room := []int{100000, 3000, 1200, 600}[seed%4] + int(seed)
		script(t, room, []int{1, 60, 150, 400}[seed/4%4], bytesOf(seed*7919, 150))
	}
}

// P1, P8.1 to P8.3: scripts of all kinds.
func FuzzScript(f *testing.F) {
	f.Add(uint16(1000), uint16(1), []byte{0, 0, 1, 0, 0, 0, 1, 0, 0, 0, 2, 0, 6, 60, 0, 0, 10, 4, 0, 0})
	f.Add(uint16(3000), uint16(60), bytesOf(1, 100))
	f.Add(uint16(700), uint16(100), bytesOf(2, 200))
	f.Fuzz(func(t *testing.T, room, limit uint16, s []byte) {
		script(t, int(room), int(limit)+1, s[:min(len(s), 1600)])
	})
}
