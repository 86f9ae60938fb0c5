package disk_test

import (
	"fmt"
	"maps"
	"slices"
	"testing"
	"unsafe"

	"carillon/api"
	"carillon/disk"
)

// lent is a text whose bytes the caller goes on to write into.
func lent(b []byte) string { return unsafe.String(unsafe.SliceData(b), len(b)) }

// P3: nothing that was handed in is kept: what is written over it is not told.
func TestNothingHandedInIsKept(t *testing.T) {
	name, other, text := []byte("aa"), []byte("bb"), []byte("xyz")
	d := made(t, 20, create(lent(name)), dirSync(), add(lent(name), lent(text)), syncs(lent(name)), add(lent(name), lent(text)))
	play(t, d, rename(lent(name), lent(other)), rename(lent(other), lent(other)))
	for _, b := range [][]byte{name, other, text} {
		for i := range b {
			b[i] = '!'
		}
	}
	wantFiles(t, d, files{"bb": "xyzxyz"})
	d.Crash(2, []int{2})
	wantFiles(t, d, files{"bb": "xyzxy"})
	name = []byte("bb")
	play(t, d, remove(lent(name)))
	name[0] = '!'
	d.Crash(1, nil)
	wantFiles(t, d, nil)
}

// P3: a crash writes into no keeps, nor behind them, and does not go by them later.
func TestKeepsAreNotKept(t *testing.T) {
	d := made(t, 20, create("a"), create("b"), dirSync(), add("a", "123"), add("b", "456"))
	keeps := []int{1, 2, 3}
	d.Crash(0, keeps[:1])
	if !slices.Equal(keeps, []int{1, 2, 3}) {
		t.Errorf("keeps %v", keeps)
	}
	wantFiles(t, d, files{"a": "1", "b": ""})
	keeps[0] = 0
	d.Crash(0, nil)
	wantFiles(t, d, files{"a": "1", "b": ""})
}

// P3: what is told is new memory, spare room too, and stays as it was told.
func TestAnswersAreNewMemory(t *testing.T) {
	d := made(t, 20, create("a"), create("b"), add("a", "xyz"))
	first, _ := d.List()
	second, _ := d.List()
	if unsafe.StringData(first[0]) == unsafe.StringData(second[0]) {
		t.Error("two answers share a name")
	}
	first = first[:cap(first)]
	for i := range first {
		first[i] = "spoilt"
	}
	if !slices.Equal(second, []string{"a", "b"}) {
		t.Errorf("%q", second)
	}
	told, _ := d.Read("a")
	again, _ := d.Read("a")
	if unsafe.StringData(told) == unsafe.StringData(again) {
		t.Error("two answers share their bytes")
	}
	play(t, d, cut("a", 0), add("a", "uv"), syncs("a"), cut("a", 1), add("a", "w"))
	d.Crash(2, []int{9})
	if told != "xyz" || again != "xyz" {
		t.Errorf("%q, %q", told, again)
	}
	wantFiles(t, d, files{"a": "uw", "b": ""})
}

// P4: two disks that are played the same tell the same, whatever is done with others beside them.
func TestAnswersHangOnTheDiskAlone(t *testing.T) {
	for seed := range uint32(8) {
		t.Run(fmt.Sprint(seed), func(t *testing.T) {
			t.Parallel()
			for range 3 {
				script(t, 20, walk(seed%2, 400))
			}
		})
	}
}

// P4: the i-th of many names is always the same one.
func TestCrashOfManyNames(t *testing.T) {
	var first files
	for range 5 {
		d := full(t)
		for _, name := range slices.Sorted(maps.Keys(found(t, d)))[:10] {
			play(t, d, add(name, "x"))
		}
		keeps := make([]int, api.MaxFiles)
		for i := range 5 {
			keeps[2*i] = 1
		}
		d.Crash(0, keeps)
		now := found(t, d)
		if first == nil {
			first = now
		}
		if !maps.Equal(first, now) || d.Used() != 5 || now["000"] != "x" || now["001"] != "" || now["008"] != "x" {
			t.Errorf("used %d, %q", d.Used(), now)
		}
	}
}

// walk is a script of so many steps, the same one for the same seed.
func walk(seed uint32, steps int) []byte {
	out := make([]byte, 4*steps)
	for i := range out {
		seed = seed*1664525 + 1013904223
		out[i] = byte(seed >> 24)
	}
	return out
}

// P4.1 to P4.3: long scripts of all calls, right and wrong, held against a disk that keeps each state.
func TestWalks(t *testing.T) {
	for seed := range uint32(300) {
		script(t, int(seed%25), walk(seed*7919, 600))
	}
}

// P1, P2: whatever is asked, in whatever state, is answered, and beside an error there is nothing.
func TestAllArguments(t *testing.T) {
	const least, most = -1 << 63, 1<<63 - 1
	for _, state := range []func() *disk.Disk{
		func() *disk.Disk { return made(t, 0) }, func() *disk.Disk { return withTwo(t) },
		func() *disk.Disk { return down(t) }, func() *disk.Disk { return full(t) },
	} {
		for _, n := range []int{least, least + 1, -1, 0, 1, 2, most - 1, most} {
			for _, name := range append(scriptNames(), "000") {
				d := state()
				d.Create(name)
				d.Append(name, "x")
				d.Truncate(name, n)
				d.Rename(name, "a")
				d.Fuse(n)
				d.Sync(name)
				d.Remove(name)
				d.DirSync()
				if s, e := d.Read(name); e != api.OK && s != "" {
					t.Errorf("Read(%q): %q, %d", name, s, e)
				}
				if l, e := d.List(); e != api.OK && len(l) != 0 {
					t.Errorf("List: %q, %d", l, e)
				}
				d.Crash(n, []int{n, n})
				d.Crash(n, nil)
				found(t, d)
			}
		}
	}
}

// P1, P4.1 to P4.3: scripts of all kinds, held against a disk that keeps each state.
func FuzzScript(f *testing.F) {
	f.Add(uint8(10), []byte{0, 0, 0, 0, 3, 0, 0, 5, 7, 0, 0, 0, 39, 0, 0, 2})
	f.Add(uint8(0), walk(1, 50))
	f.Add(uint8(20), walk(2, 200))
	f.Fuzz(func(t *testing.T, room uint8, s []byte) {
		script(t, int(room), s[:min(len(s), 4000)])
	})
}
