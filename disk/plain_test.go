package disk_test

import (
	"maps"
	"slices"
	"testing"

	"carillon/api"
	"carillon/disk"
)

// step is a call that may be refused.
type step func(d *disk.Disk) api.Errno

func create(name string) step { return func(d *disk.Disk) api.Errno { return d.Create(name) } }

func add(name, s string) step { return func(d *disk.Disk) api.Errno { return d.Append(name, s) } }

func syncs(name string) step { return func(d *disk.Disk) api.Errno { return d.Sync(name) } }

func rename(from, to string) step {
	return func(d *disk.Disk) api.Errno { return d.Rename(from, to) }
}

func cut(name string, n int) step {
	return func(d *disk.Disk) api.Errno { return d.Truncate(name, n) }
}

func remove(name string) step { return func(d *disk.Disk) api.Errno { return d.Remove(name) } }

func dirSync() step { return (*disk.Disk).DirSync }

func read(name string) step {
	return func(d *disk.Disk) api.Errno {
		_, e := d.Read(name)
		return e
	}
}

func list() step {
	return func(d *disk.Disk) api.Errno {
		_, e := d.List()
		return e
	}
}

// made is a disk on which the steps were done, all of them without an error.
func made(t *testing.T, room int, steps ...step) *disk.Disk {
	t.Helper()
	d, e := disk.New(room)
	if e != api.OK || d == nil {
		t.Fatalf("New(%d): %d", room, e)
	}
	play(t, d, steps...)
	return d
}

// play does the steps, none of which may be refused.
func play(t *testing.T, d *disk.Disk, steps ...step) {
	t.Helper()
	for i, do := range steps {
		if e := do(d); e != api.OK {
			t.Fatalf("step %d: %d", i, e)
		}
	}
}

// files are what a disk has, by their names.
type files map[string]string

// found is what List and Read tell.
func found(t *testing.T, d *disk.Disk) files {
	t.Helper()
	names, e := d.List()
	if e != api.OK {
		t.Fatalf("List: %d", e)
	}
	out := files{}
	for _, name := range names {
		s, e := d.Read(name)
		if e != api.OK {
			t.Fatalf("Read(%q): %d", name, e)
		}
		out[name] = s
	}
	if len(out) != len(names) || !slices.IsSorted(names) {
		t.Errorf("names %q do not rise", names)
	}
	return out
}

// wantFiles holds all that is told of the files of a disk against what there must be.
func wantFiles(t *testing.T, d *disk.Disk, want files) {
	t.Helper()
	if got := found(t, d); !maps.Equal(got, want) {
		t.Errorf("files %q; want %q", got, want)
	}
	used := 0
	for _, s := range want {
		used += len(s)
	}
	if got := d.Used(); got != used {
		t.Errorf("Used %d; want %d", got, used)
	}
}

// refused holds a step against its error, and looks whether anything has changed.
func refused(t *testing.T, d *disk.Disk, do step, want api.Errno) {
	t.Helper()
	before, free := found(t, d), d.Free()
	if e := do(d); e != want {
		t.Errorf("error %d; want %d", e, want)
	}
	if d.Down() || d.Free() != free {
		t.Errorf("down %v, free %d; was %d", d.Down(), d.Free(), free)
	}
	wantFiles(t, d, before)
}

// plain is a disk as the chapter tells it, that keeps each state it may crash to: dirs[0] lasts, and behind it is one for each act on names; the last one is now.
type plain struct {
	room, fuse int
	down       bool
	dirs       []map[string]*plainFile
}

// plainFile has a state for each unit: states[0] lasts, the last one is now.
type plainFile struct{ states []string }

func (f *plainFile) now() string { return f.states[len(f.states)-1] }

func newPlain(room int) *plain {
	return &plain{room: room, fuse: -1, dirs: []map[string]*plainFile{{}}}
}

func (p *plain) files() map[string]*plainFile { return p.dirs[len(p.dirs)-1] }

func (p *plain) used() int {
	used := 0
	for _, f := range p.files() {
		used += len(f.now())
	}
	return used
}

// next is a new state of the names, as they are now.
func (p *plain) next() map[string]*plainFile {
	p.dirs = append(p.dirs, maps.Clone(p.files()))
	return p.files()
}

// first tells the first fault that is there, or what the fuse has to say.
func (p *plain) first(faults ...api.Errno) api.Errno {
	if p.down {
		return api.ErrDown
	}
	for _, e := range faults {
		if e != api.OK {
			return e
		}
	}
	if p.fuse == 0 {
		p.down = true
		return api.ErrDown
	}
	p.fuse--
	return api.OK
}

// when is the fault e, if there is one.
func when(is bool, e api.Errno) api.Errno {
	if is {
		return e
	}
	return api.OK
}

func noName(name string) bool { return len(name) < 1 || len(name) > 40 }

func (p *plain) create(name string) api.Errno {
	e := p.first(when(noName(name), api.ErrName), when(p.files()[name] != nil, api.ErrExists), when(len(p.files()) == 200, api.ErrFull))
	if e == api.OK {
		p.next()[name] = &plainFile{states: []string{""}}
	}
	return e
}

func (p *plain) add(name, s string) api.Errno {
	f := p.files()[name]
	e := p.first(when(f == nil, api.ErrNone), when(p.used()+len(s) > p.room, api.ErrFull))
	if e == api.OK {
		for i := range len(s) {
			f.states = append(f.states, f.now()+s[i:i+1])
		}
	}
	return e
}

func (p *plain) sync(name string) api.Errno {
	f := p.files()[name]
	e := p.first(when(f == nil, api.ErrNone))
	if e == api.OK {
		f.states = []string{f.now()}
	}
	return e
}

func (p *plain) rename(from, to string) api.Errno {
	f := p.files()[from]
	e := p.first(when(f == nil, api.ErrNone), when(noName(to), api.ErrName))
	if e == api.OK {
		names := p.next()
		if from != to {
			names[to] = f
			delete(names, from)
		}
	}
	return e
}

func (p *plain) truncate(name string, n int) api.Errno {
	f := p.files()[name]
	e := p.first(when(f == nil, api.ErrNone), when(n < 0 || f != nil && n > len(f.now()), api.ErrArg))
	if e == api.OK {
		f.states = append(f.states, f.now()[:n])
	}
	return e
}

func (p *plain) remove(name string) api.Errno {
	e := p.first(when(p.files()[name] == nil, api.ErrNone))
	if e == api.OK {
		delete(p.next(), name)
	}
	return e
}

func (p *plain) dirSync() api.Errno {
	e := p.first()
	if e == api.OK {
		p.dirs = p.dirs[len(p.dirs)-1:]
	}
	return e
}

func (p *plain) crash(dirs int, keeps []int) {
	p.down, p.fuse = false, -1
	p.dirs = p.dirs[min(max(dirs, 0), len(p.dirs)-1):][:1]
	for i, name := range slices.Sorted(maps.Keys(p.files())) {
		f, n := p.files()[name], 0
		if i < len(keeps) {
			n = min(max(keeps[i], 0), len(f.states)-1)
		}
		f.states = f.states[n : n+1]
	}
}

// both are a disk, and a plain one that is played the same.
type both struct {
	d *disk.Disk
	p *plain
}

func newBoth(t *testing.T, room int) both {
	t.Helper()
	return both{made(t, room), newPlain(room)}
}

// alike holds what the two tell against each other.
func (b both) alike(t *testing.T, name string) {
	t.Helper()
	if b.d.Down() != b.p.down || b.d.Used() != b.p.used() || b.d.Free() != b.p.room-b.p.used() {
		t.Fatalf("down %v, used %d, free %d; want %v, %d of %d", b.d.Down(), b.d.Used(), b.d.Free(), b.p.down, b.p.used(), b.p.room)
	}
	got, e := b.d.Read(name)
	f := b.p.files()[name]
	switch {
	case b.p.down:
		names, fault := b.d.List()
		if got != "" || e != api.ErrDown || len(names) != 0 || fault != api.ErrDown {
			t.Fatalf("Read %q, %d; List %q, %d; want ErrDown", got, e, names, fault)
		}
		return
	case f == nil && (got != "" || e != api.ErrNone), f != nil && (got != f.now() || e != api.OK):
		t.Fatalf("Read(%q): %q, %d; of %v", name, got, e, f)
	}
	want := files{}
	for name, f := range b.p.files() {
		want[name] = f.now()
	}
	wantFiles(t, b.d, want)
}

// scriptNames are those that a script uses: right and wrong ones.
func scriptNames() []string {
	return []string{"a", "b", "c", "a\x00", "", string(make([]byte, 40)), string(make([]byte, 41))}
}

// script plays bytes to both: each step is a byte for what is done, and three for with what.
func script(t *testing.T, room int, s []byte) {
	b := newBoth(t, room)
	letter := byte('A') // goes on with each byte that is appended, so that no two pieces are the same
	for ; len(s) >= 4; s = s[4:] {
		names := scriptNames()
		one, two, n := names[int(s[1])%len(names)], names[int(s[2])%len(names)], int(s[3])%9-2
		text := make([]byte, max(n, 0))
		for i := range text {
			text[i], letter = letter, letter+1
		}
		got, want := b.step(int(s[0]), one, two, string(text), n)
		if got != want {
			t.Fatalf("step % x: error %d; want %d", s[:4], got, want)
		}
		b.alike(t, one)
		if t.Failed() {
			t.Fatalf("behind step % x", s[:4])
		}
	}
}

// step does one step of a script on both, and tells their errors.
func (b both) step(kind int, one, two, text string, n int) (got, want api.Errno) {
	switch kind % 20 {
	case 0, 1, 2:
		return b.d.Create(one), b.p.create(one)
	case 3, 4, 5, 6:
		return b.d.Append(one, text), b.p.add(one, text)
	case 7, 8:
		return b.d.Sync(one), b.p.sync(one)
	case 9, 10:
		return b.d.Rename(one, two), b.p.rename(one, two)
	case 11, 12, 13:
		return b.d.Truncate(one, n), b.p.truncate(one, n)
	case 14, 15:
		return b.d.Remove(one), b.p.remove(one)
	case 16, 17:
		return b.d.DirSync(), b.p.dirSync()
	case 18:
		b.d.Fuse(2 * n)
		b.p.fuse = 2 * n
	case 19:
		keeps := []int{n, len(one), 2 * n, len(two), n}[:kind%6]
		b.d.Crash(n, keeps)
		b.p.crash(n, keeps)
	}
	return api.OK, api.OK
}
