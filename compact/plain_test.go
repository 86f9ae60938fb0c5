package compact_test

import (
	"maps"
	"slices"
	"strconv"
	"strings"
	"testing"

	"carillon/api"
	"carillon/codec"
	"carillon/compact"
	"carillon/crc"
	"carillon/disk"
	"carillon/logstore"
	"carillon/segment"
)

const great = 1<<53 - 1

// rec is a record of a key, all of whose fields tell it from others.
func rec(n int, key string) api.Record {
	return api.Record{Offset: n, Producer: "p" + key, Seq: n & 0xffff, Key: key, Value: "of " + strconv.Itoa(n)}
}

// list are records, each written as its key and its Offset; `-` is the empty key.
func list(s string) []api.Record {
	var l []api.Record
	for _, w := range strings.Fields(s) {
		at := strings.IndexAny(w, "0123456789~")
		n, _ := strconv.Atoi(strings.Replace(w[at:], "~", "-", 1))
		l = append(l, rec(n, strings.ReplaceAll(w[:at], "-", "")))
	}
	return l
}

// written tells records as list reads them.
func written(l []api.Record) string {
	var out []string
	for _, r := range l {
		key := r.Key
		if key == "" {
			key = "-"
		}
		out = append(out, key+strings.Replace(strconv.Itoa(r.Offset), "-", "~", 1))
	}
	return strings.Join(out, " ")
}

// text are records as bytes, one behind the other.
func text(l []api.Record) string {
	out := ""
	for _, r := range l {
		s, _ := segment.One(r)
		out += s
	}
	return out
}

// goes tells whether the record at i goes, by looking at each one behind it.
func goes(l []api.Record, i, upto int) bool {
	for _, r := range l[i+1:] {
		if r.Key == l[i].Key && r.Key != "" && l[i].Offset < upto {
			return true
		}
	}
	return false
}

// parted are the records of a list that stay, and the Offsets of those that go.
func parted(l []api.Record, upto int) (stay []api.Record, gone []int) {
	for i, r := range l {
		if goes(l, i, upto) {
			gone = append(gone, r.Offset)
		} else {
			stay = append(stay, r)
		}
	}
	return stay, gone
}

// part is a segment of a log that is laid: its Base, its Gen, its records.
type part struct {
	base, gen int
	records   []api.Record
}

// parts reads segments: `0: a0 b1 | 2.1: a2`, where the Gen is 0 if none is written.
func parts(s string) []part {
	var out []part
	for p := range strings.SplitSeq(s, "|") {
		head, l, _ := strings.Cut(p, ":")
		base, gen, _ := strings.Cut(strings.TrimSpace(head), ".")
		x := part{records: list(l)}
		x.base, _ = strconv.Atoi(base)
		x.gen, _ = strconv.Atoi(gen)
		out = append(out, x)
	}
	return out
}

func (p part) name() string { return "t." + strconv.Itoa(p.base) + "." + strconv.Itoa(p.gen) }

// manifest are the bytes of one.
func manifest(low int, l []part) string {
	items := []api.Item{{Kind: api.ILong, N: uint64(low)}}
	for _, p := range l {
		items = append(items, api.Item{Kind: api.ILong, N: uint64(p.base)}, api.Item{Kind: api.ILong, N: uint64(p.gen)})
	}
	s, _ := codec.Encode(items)
	s, _ = crc.Frame(s)
	return s
}

// files are what a disk has, by their names.
type files map[string]string

// filesOf are those of a log: a low mark, segments.
func filesOf(low int, l []part) files {
	out := files{"t.m": manifest(low, l)}
	for _, p := range l {
		out[p.name()] = text(p.records)
	}
	return out
}

func found(t *testing.T, d *disk.Disk) files {
	t.Helper()
	names, e := d.List()
	if e != api.OK {
		t.Fatalf("List: %d", e)
	}
	out := files{}
	for _, name := range names {
		out[name], _ = d.Read(name)
	}
	return out
}

// laid is a disk that has these files, all of which last.
func laid(t *testing.T, room int, have files) *disk.Disk {
	t.Helper()
	d, e := disk.New(room)
	for _, name := range slices.Sorted(maps.Keys(have)) {
		e = max(e, d.Create(name), d.Append(name, have[name]), d.Sync(name))
	}
	if e = max(e, d.DirSync()); e != api.OK {
		t.Fatalf("a disk of %d files: %d", len(have), e)
	}
	return d
}

func opened(t *testing.T, d *disk.Disk, limit int) *logstore.Log {
	t.Helper()
	x, e := logstore.Open(d, "t", limit)
	if e != api.OK {
		t.Fatalf("Open: %d", e)
	}
	return x
}

// logOf is a log of the topic t on a disk of its own, that has this low mark and these segments.
func logOf(t *testing.T, low int, segments string) (*disk.Disk, *logstore.Log) {
	t.Helper()
	d := laid(t, 100000, filesOf(low, parts(segments)))
	return d, opened(t, d, 1)
}

// told is all that a log tells of itself.
type told struct {
	low, end int
	segments []api.Segment
	records  []api.Record
}

func tells(t *testing.T, x *logstore.Log) told {
	t.Helper()
	l, e := x.Read(0, 1<<40)
	if e != api.OK {
		t.Fatalf("Read: %d", e)
	}
	return told{x.Low(), x.End(), x.Segments(), l}
}

func (a told) same(b told) bool {
	return a.low == b.low && a.end == b.end && slices.Equal(a.segments, b.segments) && slices.Equal(a.records, b.records)
}

// wantLog holds a log, its files, and the log that is opened of them anew against what it must be.
func wantLog(t *testing.T, d *disk.Disk, x *logstore.Log, low int, segments string) {
	t.Helper()
	l := parts(segments)
	want := told{low: low, end: max(low, l[len(l)-1].base)}
	for _, p := range l {
		want.segments = append(want.segments, api.Segment{Base: p.base, Gen: p.gen, Size: len(text(p.records))})
		for _, r := range p.records {
			want.end = max(want.end, r.Offset+1)
			if r.Offset >= low {
				want.records = append(want.records, r)
			}
		}
	}
	for _, y := range []*logstore.Log{x, opened(t, d, 1)} {
		if got := tells(t, y); !got.same(want) {
			t.Errorf("low %d, end %d, segments %v, records %s; want %d, %d, %v, %s", got.low, got.end, got.segments, written(got.records), want.low, want.end, want.segments, written(want.records))
		}
	}
	wantFiles(t, d, filesOf(low, l))
}

func wantFiles(t *testing.T, d *disk.Disk, want files) {
	t.Helper()
	got := found(t, d)
	for name, s := range got {
		if w, ok := want[name]; !ok || s != w {
			t.Errorf("file %q: %d bytes; want %d, %v", name, len(s), len(w), ok)
		}
	}
	for name, w := range want {
		if _, ok := got[name]; !ok {
			t.Errorf("no file %q; want %d bytes", name, len(w))
		}
	}
}

// idle looks whether a call asks for no act of the disk.
func idle(t *testing.T, d *disk.Disk, do func()) {
	t.Helper()
	had := found(t, d)
	d.Fuse(0)
	do()
	if d.Down() {
		t.Fatal("an act was asked for")
	}
	d.Fuse(-1)
	wantFiles(t, d, had)
}

// fill leaves so many bytes of room.
func fill(t *testing.T, d *disk.Disk, left int) {
	t.Helper()
	if e := max(d.Create("fill"), d.Append("fill", strings.Repeat("x", d.Free()-left))); e != api.OK {
		t.Fatalf("fill: %d", e)
	}
}

// run is Run as the chapter tells it: each segment's records are read off its file.
func run(d *disk.Disk, x *logstore.Log, upto int) (int, api.Errno) {
	all, e := x.Read(0, 1<<40)
	if e != api.OK {
		return 0, e
	}
	_, gone := parted(all, upto)
	n := 0
	for i, s := range x.Segments() {
		text, e := d.Read(part{base: s.Base, gen: s.Gen}.name())
		if e != api.OK {
			return n, e
		}
		have, _, _ := segment.Scan(s.Base, text)
		var stay []api.Record
		going := false
		for _, r := range have {
			if slices.Contains(gone, r.Offset) {
				going = true
			} else if r.Offset >= x.Low() {
				stay = append(stay, r)
			}
		}
		if !going || i == len(x.Segments())-1 {
			continue
		}
		if e := x.Swap(i, stay); e != api.OK {
			return n, e
		}
		n++
	}
	return n, api.OK
}

// wantRun holds Run against what it must answer.
func wantRun(t *testing.T, x *logstore.Log, upto, want int, fault api.Errno) {
	t.Helper()
	if n, e := compact.Run(x, upto); n != want || e != fault {
		t.Errorf("Run(%d): %d, %d; want %d, %d", upto, n, e, want, fault)
	}
}
