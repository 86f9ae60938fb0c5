package disk_test

import (
	"maps"
	"math"
	"slices"
	"testing"

	"carillon/api"
	"carillon/disk"
)

// P4.3: of the acts on names the first dirs are kept, in their order; want[n] is what there is behind n of them.
func TestCrashKeepsTheFirstNames(t *testing.T) {
	for name, c := range map[string]struct {
		steps []step
		want  []files
	}{
		"nothing":           {nil, []files{{"a": "A", "b": "B"}}},
		"Create":            {[]step{create("c")}, []files{{"a": "A", "b": "B"}, {"a": "A", "b": "B", "c": ""}}},
		"Remove":            {[]step{remove("a")}, []files{{"a": "A", "b": "B"}, {"b": "B"}}},
		"Rename":            {[]step{rename("a", "c")}, []files{{"a": "A", "b": "B"}, {"b": "B", "c": "A"}}},
		"Rename to another": {[]step{rename("a", "b")}, []files{{"a": "A", "b": "B"}, {"b": "A"}}},
		"Rename to itself": {[]step{rename("a", "a"), remove("b")}, []files{
			{"a": "A", "b": "B"}, {"a": "A", "b": "B"}, {"a": "A"}}},
		"Remove and Create": {[]step{remove("a"), create("a")}, []files{
			{"a": "A", "b": "B"}, {"b": "B"}, {"a": "", "b": "B"}}},
		"in a ring": {[]step{rename("a", "c"), rename("b", "a"), rename("c", "b")}, []files{
			{"a": "A", "b": "B"}, {"b": "B", "c": "A"}, {"a": "B", "c": "A"}, {"a": "B", "b": "A"}}},
		"DirSync": {[]step{create("c"), remove("b"), dirSync(), remove("a"), create("d")}, []files{
			{"a": "A", "c": ""}, {"c": ""}, {"c": "", "d": ""}}},
		"acts on bytes": {[]step{add("a", "1"), cut("b", 0), syncs("b"), create("c"), add("c", "2"), syncs("c")}, []files{
			{"a": "A", "b": ""}, {"a": "A", "b": "", "c": "2"}}},
		"what was refused": {[]step{func(d *disk.Disk) api.Errno { d.Create("a"); d.Remove("x"); d.Rename("a", ""); return api.OK }, create("c")}, []files{
			{"a": "A", "b": "B"}, {"a": "A", "b": "B", "c": ""}}},
	} {
		all := len(c.want) - 1
		for _, dirs := range []int{math.MinInt, -1, 0, 1, 2, 3, 4, 100, math.MaxInt} {
			d := made(t, 10, create("a"), create("b"), add("a", "A"), add("b", "B"), syncs("a"), syncs("b"), dirSync())
			play(t, d, c.steps...)
			d.Crash(dirs, nil)
			wantFiles(t, d, c.want[min(max(dirs, 0), all)])
			d.Crash(100, []int{100, 100, 100})
			wantFiles(t, d, c.want[min(max(dirs, 0), all)])
			if t.Failed() {
				t.Fatalf("%s, dirs %d", name, dirs)
			}
		}
	}
}

// P4.3: of what was done with a file since it was synced the first units are kept: each byte is one, and each Truncate.
func TestCrashKeepsTheFirstUnits(t *testing.T) {
	for name, c := range map[string]struct {
		steps []step
		want  []string
	}{
		"nothing":              {nil, []string{"xy"}},
		"Append":               {[]step{add("a", "123")}, []string{"xy", "xy1", "xy12", "xy123"}},
		"Append of nothing":    {[]step{add("a", ""), add("a", "1"), add("a", ""), add("a", "2")}, []string{"xy", "xy1", "xy12"}},
		"Truncate to 0":        {[]step{cut("a", 0)}, []string{"xy", ""}},
		"Truncate to all":      {[]step{cut("a", 2), add("a", "1"), cut("a", 3)}, []string{"xy", "xy", "xy1", "xy1"}},
		"Truncate again":       {[]step{cut("a", 1), cut("a", 1), cut("a", 0)}, []string{"xy", "x", "x", ""}},
		"Truncate and Append":  {[]step{cut("a", 1), add("a", "12")}, []string{"xy", "x", "x1", "x12"}},
		"Append and Truncate":  {[]step{add("a", "12"), cut("a", 1), add("a", "3")}, []string{"xy", "xy1", "xy12", "x", "x3"}},
		"Sync":                 {[]step{add("a", "12"), cut("a", 3), syncs("a")}, []string{"xy1"}},
		"Sync and more":        {[]step{add("a", "12"), syncs("a"), cut("a", 0), add("a", "3")}, []string{"xy12", "", "3"}},
		"Rename, all the same": {[]step{add("a", "1"), rename("a", "b"), add("b", "2"), rename("b", "a"), cut("a", 3)}, []string{"xy", "xy1", "xy12", "xy1"}},
		"Sync by another name": {[]step{add("a", "1"), rename("a", "b"), syncs("b"), add("b", "2")}, []string{"xy1", "xy12"}},
		"Remove":               {[]step{add("a", "12"), remove("a")}, []string{"xy", "xy1", "xy12"}},
		"gone under another":   {[]step{add("a", "12"), create("b"), add("b", "uv"), rename("b", "a"), add("a", "w")}, []string{"xy", "xy1", "xy12"}},
		"another of its name":  {[]step{add("a", "12"), remove("a"), create("a"), add("a", "uvw"), syncs("a")}, []string{"xy", "xy1", "xy12"}},
		"what was refused": {[]step{func(d *disk.Disk) api.Errno { d.Append("a", "123456789"); d.Truncate("a", 3); return api.OK }, add("a", "1")}, []string{
			"xy", "xy1"}},
	} {
		all := len(c.want) - 1
		for _, keep := range []int{math.MinInt, -1, 0, 1, 2, 3, 4, 5, 100, math.MaxInt} {
			d := made(t, 10, create("a"), dirSync(), add("a", "xy"), syncs("a"))
			play(t, d, c.steps...)
			d.Crash(0, []int{keep})
			wantFiles(t, d, files{"a": c.want[min(max(keep, 0), all)]})
			d.Crash(100, []int{100})
			wantFiles(t, d, files{"a": c.want[min(max(keep, 0), all)]})
			if t.Failed() {
				t.Fatalf("%s, keeps %d", name, keep)
			}
		}
	}
}

// P4.3: a file that was never synced has none of its bytes, but those that are kept.
func TestCrashOfWhatWasNeverSynced(t *testing.T) {
	for keep, want := range []string{"", "x", "xy", "xyz", "x", "xu", "xu"} {
		d := made(t, 10, create("a"), add("a", "xyz"), cut("a", 1), add("a", "u"))
		d.Crash(1, []int{keep})
		wantFiles(t, d, files{"a": want})
	}
}

// P4.3: keeps[i] is of the i-th name, rising, of those that are there then; who has none keeps nothing.
func TestCrashKeepsByName(t *testing.T) {
	for _, c := range []struct {
		dirs  int
		keeps []int
		want  files
	}{
		{0, nil, files{"b": "", "c": "", "d": ""}},
		{0, []int{}, files{"b": "", "c": "", "d": ""}},
		{0, []int{1}, files{"b": "1", "c": "", "d": ""}},
		{0, []int{1, 2, 3}, files{"b": "1", "c": "45", "d": "789"}},
		{0, []int{-1, 2, -1, 4, 5, 6}, files{"b": "", "c": "45", "d": ""}},
		{0, []int{0, 0, 9, 9, 9}, files{"b": "", "c": "", "d": "789"}},
		{1, []int{1, 2, 3}, files{"b": "1", "c": "45"}},
		{2, []int{1, 2, 3}, files{"a": "u", "b": "12", "c": "456"}},
		{3, []int{1, 2, 3}, files{"a": "u", "b": "12", "e": "456"}},
		{4, []int{1, 2, 3}, files{"b": "u", "e": "45"}},
		{9, []int{2, 0}, files{"b": "uv", "e": ""}},
	} {
		d := made(t, 20, create("d"), create("c"), create("b"), dirSync(), add("b", "123"), add("c", "456"), add("d", "789"))
		play(t, d, remove("d"), create("a"), add("a", "uvw"), rename("c", "e"), rename("a", "b"))
		kept := slices.Clone(c.keeps)
		d.Crash(c.dirs, c.keeps)
		wantFiles(t, d, c.want)
		if t.Failed() {
			t.Fatalf("dirs %d, keeps %v", c.dirs, c.keeps)
		}
		if !slices.Equal(kept, c.keeps) {
			t.Errorf("keeps %v; were %v", c.keeps, kept)
		}
	}
}

// P4.3: a file made under the name of one that is gone is another one: what was synced of the one is not the other's.
func TestCrashTellsFilesApart(t *testing.T) {
	steps := []step{add("a", "old"), syncs("a"), remove("a"), create("a"), add("a", "new")}
	for dirs, want := range []files{{"a": "old"}, {}, {"a": "n"}} {
		d := made(t, 20, create("a"), dirSync())
		play(t, d, steps...)
		d.Crash(dirs, []int{1})
		wantFiles(t, d, want)
	}
	steps = append(steps, syncs("a"), add("a", "er"))
	for dirs, want := range []files{{"a": "old"}, {}, {"a": "newe"}} {
		d := made(t, 20, create("a"), dirSync())
		play(t, d, steps...)
		d.Crash(dirs, []int{1})
		wantFiles(t, d, want)
	}
}

// P4.3: behind a crash the disk is not down, and has no fuse, whether it was down or not.
func TestCrashBringsItUp(t *testing.T) {
	for _, fuse := range []int{-1, 0, 1, 5} {
		d := made(t, 10, create("a"))
		d.Fuse(fuse)
		d.Crash(1, nil)
		for range 20 {
			play(t, d, syncs("a"), dirSync())
		}
		d = down(t)
		d.Fuse(fuse)
		d.Crash(0, nil)
		if d.Down() {
			t.Error("down")
		}
		for range 20 {
			play(t, d, syncs("a"), dirSync())
		}
	}
}

// P4.3: what was done ahead of a fuse's end may be kept, as without one.
func TestCrashBehindAFuse(t *testing.T) {
	for dirs, want := range []files{{"a": "xy12"}, {"a": "xy12", "b": ""}, {"b": "xy12"}} {
		d := made(t, 10, create("a"), add("a", "xy"), syncs("a"), dirSync())
		d.Fuse(3)
		play(t, d, create("b"), add("a", "12"), rename("a", "b"))
		if e := d.Remove("b"); e != api.ErrDown {
			t.Errorf("Remove: %d", e)
		}
		d.Crash(dirs, []int{2, 2})
		wantFiles(t, d, want)
	}
}

// P4.3: what is done behind a crash is done from what it left.
func TestCrashAgainAndAgain(t *testing.T) {
	d := made(t, 20, create("a"), add("a", "123"))
	d.Crash(1, []int{2})
	play(t, d, add("a", "4"), rename("a", "b"), create("a"), add("a", "5"))
	d.Crash(1, []int{1})
	wantFiles(t, d, files{"b": "124"})
	play(t, d, cut("b", 1), add("b", "67"), create("c"))
	d.Crash(0, []int{2})
	wantFiles(t, d, files{"b": "16"})
	play(t, d, remove("b"), create("b"), add("b", "8"), syncs("b"))
	d.Crash(2, nil)
	wantFiles(t, d, files{"b": "8"})
	d.Crash(-1, nil)
	wantFiles(t, d, files{"b": "8"})
}

// P4.2, P4.3: bytes that a crash brings back may be more than there is room for: Free is below 0, and nothing is appended, not even nothing.
func TestCrashBeyondTheRoom(t *testing.T) {
	d := made(t, 10, create("a"), create("b"), dirSync(), add("a", "0123456789"), syncs("a"), cut("a", 0), add("b", "uvw"), syncs("b"))
	d.Crash(0, nil)
	wantFiles(t, d, files{"a": "0123456789", "b": "uvw"})
	if d.Free() != -3 {
		t.Errorf("free %d", d.Free())
	}
	refused(t, d, add("b", ""), api.ErrFull)
	refused(t, d, add("b", "x"), api.ErrFull)
	play(t, d, create("c"), cut("a", 7), add("b", ""))
	refused(t, d, add("b", "x"), api.ErrFull)
}

// P4.4: what was synced, under a name that was synced, is there behind any crash, in whichever order the two were synced.
func TestWhatIsSyncedIsThere(t *testing.T) {
	for _, syncing := range [][]step{{syncs("a"), syncs("b"), dirSync()}, {dirSync(), syncs("b"), syncs("a")}} {
		for _, dirs := range []int{-1, 0, 1, 9} {
			for _, keeps := range [][]int{nil, {-1, -1}, {0, 0}, {1, 1}, {99, 99, 99}} {
				d := made(t, 20, create("c"), create("b"), add("c", "1234"), cut("c", 2), rename("c", "a"), add("b", "uv"))
				play(t, d, syncing...)
				for range 3 {
					d.Crash(dirs, keeps)
					wantFiles(t, d, files{"a": "12", "b": "uv"})
				}
			}
		}
	}
}

// P4.4: without a crash what was appended is read, whatever is synced.
func TestWhatIsAppendedIsRead(t *testing.T) {
	syncing := []step{syncs("a"), dirSync(), syncs("b")}
	for which := range 1 << len(syncing) {
		d := made(t, 100, create("a"), create("b"))
		want := files{"a": "", "b": ""}
		for _, piece := range []string{"1", "", "23", "456"} {
			for name := range want {
				play(t, d, add(name, name+piece))
				want[name] += name + piece
			}
			wantFiles(t, d, want)
			for i, do := range syncing {
				if which>>i&1 == 1 {
					play(t, d, do)
					wantFiles(t, d, want)
				}
			}
		}
	}
}

// P4.3: a crash behind all ways to do three acts on a few files, held against a disk that keeps each state.
func TestCrashBehindAllWays(t *testing.T) {
	acts := map[string]func(b both) (got, want api.Errno){
		"Create a":   func(b both) (got, want api.Errno) { return b.d.Create("a"), b.p.create("a") },
		"Create b":   func(b both) (got, want api.Errno) { return b.d.Create("b"), b.p.create("b") },
		"Append a":   func(b both) (got, want api.Errno) { return b.d.Append("a", "12"), b.p.add("a", "12") },
		"Append b":   func(b both) (got, want api.Errno) { return b.d.Append("b", "3"), b.p.add("b", "3") },
		"Sync a":     func(b both) (got, want api.Errno) { return b.d.Sync("a"), b.p.sync("a") },
		"Sync b":     func(b both) (got, want api.Errno) { return b.d.Sync("b"), b.p.sync("b") },
		"Rename a b": func(b both) (got, want api.Errno) { return b.d.Rename("a", "b"), b.p.rename("a", "b") },
		"Rename b a": func(b both) (got, want api.Errno) { return b.d.Rename("b", "a"), b.p.rename("b", "a") },
		"Rename a a": func(b both) (got, want api.Errno) { return b.d.Rename("a", "a"), b.p.rename("a", "a") },
		"Truncate a": func(b both) (got, want api.Errno) { return b.d.Truncate("a", 1), b.p.truncate("a", 1) },
		"Remove a":   func(b both) (got, want api.Errno) { return b.d.Remove("a"), b.p.remove("a") },
		"Remove b":   func(b both) (got, want api.Errno) { return b.d.Remove("b"), b.p.remove("b") },
		"DirSync":    func(b both) (got, want api.Errno) { return b.d.DirSync(), b.p.dirSync() },
	}
	names := slices.Sorted(maps.Keys(acts))
	for ways := range len(names) * len(names) * len(names) {
		way := []string{names[ways%len(names)], names[ways/len(names)%len(names)], names[ways/len(names)/len(names)]}
		for crash := range 4 * 4 {
			b := newBoth(t, 9)
			play(t, b.d, create("a"), add("a", "xy"), syncs("a"), dirSync(), add("a", "z"))
			b.p.create("a")
			b.p.add("a", "xy")
			b.p.sync("a")
			b.p.dirSync()
			b.p.add("a", "z")
			for _, name := range way {
				if got, want := acts[name](b); got != want {
					t.Fatalf("%q, %s: %d; want %d", way, name, got, want)
				}
			}
			b.alike(t, "a")
			dirs, keeps := crash%4, []int{crash / 4, crash%2 + crash/4}
			b.d.Crash(dirs, keeps)
			b.p.crash(dirs, keeps)
			b.alike(t, "b")
			if t.Failed() {
				t.Fatalf("%q, crash of %d, %v", way, dirs, keeps)
			}
		}
	}
}
