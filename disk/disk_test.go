package disk_test

import (
	"fmt"
	"maps"
	"math"
	"slices"
	"strings"
	"testing"

	"carillon/api"
	"carillon/disk"
)

const maxRoom = 1000000000

// longest and tooLong are names of MaxName bytes, and of one more.
var (
	longest = strings.Repeat("n", api.MaxName)
	tooLong = longest + "n"
)

// P4.1: the room is from 0 to 1000000000; the disk is empty, and not down.
func TestNew(t *testing.T) {
	for _, room := range []int{0, 1, 10, maxRoom - 1, maxRoom} {
		d := made(t, room)
		wantFiles(t, d, nil)
		if d.Free() != room || d.Down() {
			t.Errorf("room %d: free %d, down %v", room, d.Free(), d.Down())
		}
	}
	for _, room := range []int{-1, math.MinInt, maxRoom + 1, math.MaxInt} {
		if d, e := disk.New(room); d != nil || e != api.ErrArg {
			t.Errorf("room %d: %v, %d", room, d, e)
		}
	}
}

// P4.1: a new disk has no fuse.
func TestNewHasNoFuse(t *testing.T) {
	d := made(t, 1, create("a"))
	for range 10000 {
		play(t, d, dirSync())
	}
}

// P4.1 to P4.3: the chapter's examples, one behind the other.
func TestExamples(t *testing.T) {
	d := made(t, 100, create("a"), add("a", "xyz"), syncs("a"))
	d.Crash(0, nil)
	wantFiles(t, d, nil)
	play(t, d, create("a"), add("a", "xyz"), dirSync())
	d.Crash(0, []int{2})
	wantFiles(t, d, files{"a": "xy"})
	play(t, d, add("a", "z"), syncs("a"), rename("a", "b"))
	d.Crash(1, nil)
	wantFiles(t, d, files{"b": "xyz"})
	d.Fuse(1)
	play(t, d, remove("b"))
	if e := d.Create("c"); e != api.ErrDown || !d.Down() {
		t.Errorf("Create: %d, down %v", e, d.Down())
	}
}

// P4.1: a name has 1 to MaxName bytes, any; a file that is made has no bytes.
func TestCreate(t *testing.T) {
	names := []string{"a", "\x00", "\xff\xfe", "/", ".", "a\nb", "é", longest, strings.Repeat("\x80", api.MaxName)}
	d := made(t, 0)
	want := files{}
	for _, name := range names {
		play(t, d, create(name))
		want[name] = ""
		wantFiles(t, d, want)
	}
	for _, name := range []string{"", tooLong, strings.Repeat("é", api.MaxName), strings.Repeat("x", 1000)} {
		refused(t, d, create(name), api.ErrName)
	}
	for _, name := range names {
		refused(t, d, create(name), api.ErrExists)
	}
	d = made(t, 9, create("a"), add("a", "xyz"))
	refused(t, d, create("a"), api.ErrExists)
}

// full is a disk of MaxFiles files, 000 and on, that last.
func full(t *testing.T) *disk.Disk {
	t.Helper()
	d := made(t, 10)
	for i := range api.MaxFiles {
		play(t, d, create(fmt.Sprintf("%03d", i)))
	}
	play(t, d, dirSync())
	return d
}

// P4.1: there are at most MaxFiles files; names are looked at ahead of that.
func TestCreateWhenFull(t *testing.T) {
	d := full(t)
	refused(t, d, create("new"), api.ErrFull)
	refused(t, d, create(longest), api.ErrFull)
	refused(t, d, create(""), api.ErrName)
	refused(t, d, create(tooLong), api.ErrName)
	refused(t, d, create("017"), api.ErrExists)
	play(t, d, rename("017", "new"))
	refused(t, d, create("017"), api.ErrFull)
	play(t, d, rename("new", "018"), create("017"))
	refused(t, d, create("new"), api.ErrFull)
	play(t, d, remove("000"), create("new"))
	refused(t, d, create("000"), api.ErrFull)
	d.Crash(0, nil)
	refused(t, d, create("new"), api.ErrFull)
	if names, _ := d.List(); len(names) != api.MaxFiles || names[0] != "000" || names[199] != "199" {
		t.Errorf("%d names", len(names))
	}
}

// P4.1: what is appended stands behind the bytes, as long as there is room.
func TestAppend(t *testing.T) {
	d := made(t, 10, create("a"), create("b"))
	refused(t, d, add("c", "x"), api.ErrNone)
	refused(t, d, add("", "x"), api.ErrNone)
	refused(t, d, add(tooLong, "x"), api.ErrNone)
	refused(t, d, add("c", "much too long for it"), api.ErrNone)
	refused(t, d, add("a", "12345678901"), api.ErrFull)
	play(t, d, add("a", "1234"), add("b", "\x00\xff"), add("a", ""), add("a", "5"))
	wantFiles(t, d, files{"a": "12345", "b": "\x00\xff"})
	refused(t, d, add("b", "6789"), api.ErrFull)
	play(t, d, add("b", "678"), add("b", ""), add("a", ""))
	wantFiles(t, d, files{"a": "12345", "b": "\x00\xff678"})
	refused(t, d, add("a", "x"), api.ErrFull)
	refused(t, d, add("b", "x"), api.ErrFull)
	if d.Free() != 0 {
		t.Errorf("free %d", d.Free())
	}
}

// P4.1: a disk with room for nothing has files, and they take no byte.
func TestNoRoom(t *testing.T) {
	d := made(t, 0, create("a"), add("a", ""), syncs("a"), dirSync(), cut("a", 0), rename("a", "b"))
	refused(t, d, add("b", "x"), api.ErrFull)
	wantFiles(t, d, files{"b": ""})
}

// P4.1: a disk of the greatest room takes much.
func TestMuch(t *testing.T) {
	const n = 1000000
	much := strings.Repeat("0123456789", n/10)
	d := made(t, maxRoom, create("a"), create("b"), add("a", much), syncs("a"), add("b", much), add("a", much))
	if d.Used() != 3*n || d.Free() != maxRoom-3*n {
		t.Errorf("used %d, free %d", d.Used(), d.Free())
	}
	play(t, d, dirSync())
	d.Crash(0, []int{7, n - 1})
	wantFiles(t, d, files{"a": much + "0123456", "b": much[:n-1]})
}

// P4.1: bytes that are taken away make room.
func TestRoomThatIsMade(t *testing.T) {
	for _, c := range []struct {
		make step
		room int
	}{{cut("a", 1), 3}, {cut("a", 0), 4}, {remove("a"), 4}, {rename("b", "a"), 4}, {rename("a", "b"), 6}, {rename("a", "c"), 0}} {
		d := made(t, 10, create("z"), create("a"), add("a", "1234"), create("b"), add("b", "567890"))
		refused(t, d, add("z", "x"), api.ErrFull)
		play(t, d, c.make)
		if d.Free() != c.room {
			t.Errorf("free %d; want %d", d.Free(), c.room)
		}
		refused(t, d, add("z", strings.Repeat("x", c.room+1)), api.ErrFull)
		play(t, d, add("z", strings.Repeat("x", c.room)))
	}
}

// P4.1: Sync of what is not there; nothing that is read is changed by it.
func TestSync(t *testing.T) {
	d := made(t, 9, create("a"), add("a", "xyz"))
	for _, name := range []string{"b", "", tooLong} {
		refused(t, d, syncs(name), api.ErrNone)
	}
	play(t, d, syncs("a"), syncs("a"))
	wantFiles(t, d, files{"a": "xyz"})
}

// P4.1: the file has the other name; a file that had it is gone.
func TestRename(t *testing.T) {
	d := made(t, 9, create("a"), add("a", "xyz"), create("b"), add("b", "uv"))
	refused(t, d, rename("c", "d"), api.ErrNone)
	refused(t, d, rename("c", "a"), api.ErrNone)
	refused(t, d, rename("c", ""), api.ErrNone)
	refused(t, d, rename("", ""), api.ErrNone)
	refused(t, d, rename(tooLong, tooLong), api.ErrNone)
	refused(t, d, rename("c", "c"), api.ErrNone)
	refused(t, d, rename("a", ""), api.ErrName)
	refused(t, d, rename("a", tooLong), api.ErrName)
	play(t, d, rename("a", longest))
	wantFiles(t, d, files{longest: "xyz", "b": "uv"})
	play(t, d, rename(longest, "a"), rename("a", "b"))
	wantFiles(t, d, files{"b": "xyz"})
	play(t, d, rename("b", "b"))
	wantFiles(t, d, files{"b": "xyz"})
	refused(t, d, read("a"), api.ErrNone)
	play(t, d, create("a"), add("b", "!"))
	wantFiles(t, d, files{"a": "", "b": "xyz!"})
}

// P4.1: a file has its first n bytes.
func TestTruncate(t *testing.T) {
	for _, n := range []int{0, 1, 2, 3} {
		d := made(t, 9, create("a"), add("a", "xyz"), cut("a", n))
		wantFiles(t, d, files{"a": "xyz"[:n]})
		play(t, d, add("a", "12"))
		wantFiles(t, d, files{"a": "xyz"[:n] + "12"})
		for _, wrong := range []int{-1, math.MinInt, n + 3, math.MaxInt} {
			refused(t, d, cut("a", wrong), api.ErrArg)
		}
	}
	d := made(t, 9, create("a"))
	refused(t, d, cut("a", 1), api.ErrArg)
	for _, n := range []int{-1, 0, 1} {
		for _, name := range []string{"b", "", tooLong} {
			refused(t, d, cut(name, n), api.ErrNone)
		}
	}
	play(t, d, cut("a", 0))
	wantFiles(t, d, files{"a": ""})
}

// P4.1: what is removed is gone, and its name may be given anew.
func TestRemove(t *testing.T) {
	d := made(t, 9, create("a"), add("a", "xyz"), create("b"))
	for _, name := range []string{"c", "", tooLong} {
		refused(t, d, remove(name), api.ErrNone)
	}
	play(t, d, remove("a"))
	wantFiles(t, d, files{"b": ""})
	refused(t, d, remove("a"), api.ErrNone)
	play(t, d, create("a"))
	wantFiles(t, d, files{"a": "", "b": ""})
}

// P4.1: Read and List tell nothing beside an error.
func TestRead(t *testing.T) {
	d := made(t, 9, create("a"), add("a", "x\x00\xffz"))
	for _, name := range []string{"b", "", tooLong, "aa"} {
		if s, e := d.Read(name); s != "" || e != api.ErrNone {
			t.Errorf("Read(%q): %q, %d", name, s, e)
		}
	}
	wantFiles(t, d, files{"a": "x\x00\xffz"})
}

// P4.1: names rise by their bytes, in whatever order the files were made.
func TestList(t *testing.T) {
	rising := []string{"\x00", "\x00\x00", "A", "Z", "a", "a\x00", "aa", "ab", "b", "z", "{", "é", "\xff"}
	falling := slices.Clone(rising)
	slices.Reverse(falling)
	for _, names := range [][]string{rising, falling, {"b", "a", "\xff", "aa", "é", "\x00", "Z", "a\x00", "z", "{", "\x00\x00", "ab", "A"}} {
		d := made(t, 9)
		for _, name := range names {
			play(t, d, create(name))
		}
		if got, e := d.List(); !slices.Equal(got, rising) || e != api.OK {
			t.Errorf("%q, %d; want %q", got, e, rising)
		}
	}
}

// calls are all that ErrDown is asked of, with arguments that are right on a disk that has a and b, and not c.
func calls() map[string]step {
	return map[string]step{
		"Create": create("c"), "Append": add("a", "z"), "Append of nothing": add("a", ""), "Sync": syncs("a"),
		"Rename": rename("a", "c"), "Rename to another": rename("a", "b"), "Rename to itself": rename("a", "a"),
		"Truncate": cut("a", 1), "Truncate to all": cut("a", 2), "Remove": remove("a"), "DirSync": dirSync(),
	}
}

// asks are the calls that are no acts, on such a disk.
func asks() map[string]step {
	return map[string]step{"Read": read("a"), "List": list()}
}

// faults are refused by such a disk, of the room 10: each tells the first of its errors.
func faults() map[string]struct {
	do   step
	want api.Errno
} {
	return map[string]struct {
		do   step
		want api.Errno
	}{
		"Create of no name": {create(""), api.ErrName}, "Create of a name too long": {create(tooLong), api.ErrName},
		"Create of what is there": {create("a"), api.ErrExists},
		"Append to none":          {add("c", "x"), api.ErrNone}, "Append of much to none": {add("c", "12345678901"), api.ErrNone},
		"Append of much": {add("a", "12345678901"), api.ErrFull}, "Append of a byte too many": {add("b", "1234567"), api.ErrFull},
		"Sync of none":   {syncs("c"), api.ErrNone},
		"Rename of none": {rename("c", "d"), api.ErrNone}, "Rename of none to no name": {rename("c", ""), api.ErrNone},
		"Rename to no name": {rename("a", ""), api.ErrName}, "Rename to a name too long": {rename("a", tooLong), api.ErrName},
		"Truncate of none": {cut("c", 0), api.ErrNone}, "Truncate of none below 0": {cut("c", -1), api.ErrNone},
		"Truncate below 0": {cut("a", -1), api.ErrArg}, "Truncate beyond": {cut("a", 3), api.ErrArg},
		"Remove of none": {remove("c"), api.ErrNone}, "Read of none": {read("c"), api.ErrNone},
	}
}

func withTwo(t *testing.T) *disk.Disk {
	t.Helper()
	return made(t, 10, create("a"), create("b"), add("a", "xy"), add("b", "uv"), syncs("a"), syncs("b"), dirSync())
}

// down is a disk with a and b, whose fuse ended.
func down(t *testing.T) *disk.Disk {
	t.Helper()
	d := withTwo(t)
	d.Fuse(0)
	if e := d.DirSync(); e != api.ErrDown {
		t.Fatalf("DirSync: %d", e)
	}
	return d
}

// P4.1: each call of a disk that is down tells ErrDown, ahead of any other error, and does nothing.
func TestDown(t *testing.T) {
	tried := maps.Clone(calls())
	maps.Copy(tried, asks())
	for name, c := range faults() {
		tried[name] = c.do
	}
	d := down(t)
	for _, fuse := range []int{0, -1, 1, 100} {
		d.Fuse(fuse)
		for name, do := range tried {
			if e := do(d); e != api.ErrDown {
				t.Errorf("%s: %d", name, e)
			}
			if !d.Down() || d.Used() != 4 || d.Free() != 6 {
				t.Errorf("%s: down %v, used %d, free %d", name, d.Down(), d.Used(), d.Free())
			}
		}
	}
	if s, _ := d.Read("a"); s != "" {
		t.Errorf("Read beside ErrDown: %q", s)
	}
	if l, _ := d.List(); len(l) != 0 {
		t.Errorf("List beside ErrDown: %q", l)
	}
	d.Crash(9, []int{9, 9})
	wantFiles(t, d, files{"a": "xy", "b": "uv"})
}

// P4.1: with a fuse of 0 an act is not done: the disk goes down, and has, behind a crash that keeps all, what it had.
func TestFuseOfNought(t *testing.T) {
	for name, do := range calls() {
		d := withTwo(t)
		d.Fuse(0)
		if d.Down() {
			t.Errorf("%s: down ahead of it", name)
		}
		if e := do(d); e != api.ErrDown || !d.Down() || d.Used() != 4 {
			t.Errorf("%s: %d, down %v, used %d", name, e, d.Down(), d.Used())
		}
		d.Crash(9, []int{9, 9, 9})
		wantFiles(t, d, files{"a": "xy", "b": "uv"})
	}
}

// P4.1: each act takes one of the fuse, whichever act it is.
func TestFuse(t *testing.T) {
	for name, do := range calls() {
		for _, n := range []int{1, 2, 7} {
			d := withTwo(t)
			d.Fuse(n)
			for range n - 1 {
				play(t, d, dirSync())
			}
			if e := do(d); e != api.OK || d.Down() {
				t.Errorf("%s, the last of %d: %d, down %v", name, n, e, d.Down())
			}
			if e := d.DirSync(); e != api.ErrDown || !d.Down() {
				t.Errorf("behind %s: %d, down %v", name, e, d.Down())
			}
		}
	}
}

// P4.1: what is refused takes nothing of a fuse, and tells its own error even if the fuse is 0; nor do Read and List.
func TestFuseOfNoAct(t *testing.T) {
	for _, n := range []int{0, 1, 2} {
		d := withTwo(t)
		d.Fuse(n)
		for _, c := range faults() {
			refused(t, d, c.do, c.want)
		}
		for range 5 {
			for _, do := range asks() {
				play(t, d, do)
			}
		}
		for range n {
			play(t, d, syncs("a"))
		}
		if e := d.Sync("a"); e != api.ErrDown {
			t.Errorf("fuse of %d: %d", n, e)
		}
	}
}

// P4.1: a disk that has no more room for a file tells that ahead of its fuse.
func TestFuseOfFull(t *testing.T) {
	d := full(t)
	d.Fuse(0)
	refused(t, d, create("new"), api.ErrFull)
	if e := d.Remove("000"); e != api.ErrDown {
		t.Errorf("Remove: %d", e)
	}
	d.Crash(9, nil)
	refused(t, d, create("new"), api.ErrFull)
}

// P4.2: the fuse is what it was set to last; below 0 there is none.
func TestFuseSetAnew(t *testing.T) {
	d := made(t, 9, create("a"))
	d.Fuse(0)
	for _, none := range []int{-1, -2, math.MinInt} {
		d.Fuse(none)
		for range 1000 {
			play(t, d, dirSync())
		}
	}
	d.Fuse(math.MaxInt)
	play(t, d, dirSync(), dirSync())
	d.Fuse(1)
	d.Fuse(3)
	play(t, d, dirSync(), dirSync(), dirSync())
	d.Fuse(1)
	play(t, d, dirSync())
	if e := d.DirSync(); e != api.ErrDown {
		t.Errorf("DirSync: %d", e)
	}
}

// P4.2: Used and Free tell of what is read, synced or not.
func TestUsedAndFree(t *testing.T) {
	d := made(t, 20)
	used := func(want int) {
		t.Helper()
		if d.Used() != want || d.Free() != 20-want {
			t.Errorf("used %d, free %d; want %d", d.Used(), d.Free(), want)
		}
	}
	used(0)
	play(t, d, create("a"))
	used(0)
	play(t, d, add("a", "12345"))
	used(5)
	play(t, d, create("b"), add("b", "1234567"), syncs("b"))
	used(12)
	play(t, d, cut("a", 2))
	used(9)
	play(t, d, rename("b", "c"), rename("c", "c"))
	used(9)
	play(t, d, rename("a", "c"))
	used(2)
	play(t, d, remove("c"), dirSync())
	used(0)
}
