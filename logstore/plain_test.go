package logstore_test

import (
	"encoding/binary"
	"hash/crc32"
	"slices"
	"strconv"
	"strings"
	"testing"

	"carillon/api"
	"carillon/disk"
	"carillon/logstore"
	"carillon/segment"
)

const great = 1<<53 - 1

func rec(n int) api.Record {
	return api.Record{Offset: n, Producer: "p", Seq: n % 1000, Key: "k", Value: "value"}
}

func recs(numbers ...int) []api.Record {
	var l []api.Record
	for _, n := range numbers {
		l = append(l, rec(n))
	}
	return l
}

// one is how many bytes each record of rec has.
var one = len(text(rec(0)))

func offsets(l []api.Record) []int {
	var out []int
	for _, r := range l {
		out = append(out, r.Offset)
	}
	return out
}

// framed is a body as chapter 2 has it in a frame.
func framed(body string) string {
	length := string(binary.BigEndian.AppendUint32(nil, uint32(len(body))))
	sum := crc32.Checksum([]byte(length+body), crc32.MakeTable(crc32.Castagnoli))
	return length + string(binary.BigEndian.AppendUint32(nil, sum)) + body
}

func longs(numbers ...uint64) string {
	var b []byte
	for _, n := range numbers {
		b = binary.BigEndian.AppendUint64(b, n)
	}
	return string(b)
}

// manifest are the bytes of one: the low mark, and a Base and a Gen for each segment.
func manifest(numbers ...int) string {
	body := ""
	for _, n := range numbers {
		body += longs(uint64(n))
	}
	return framed(body)
}

// text are records as bytes, as chapter 6 tells them.
func text(l ...api.Record) string {
	out := ""
	word := func(s string) string {
		return string(binary.BigEndian.AppendUint32(nil, uint32(len(s)))) + s
	}
	for _, r := range l {
		out += framed(longs(uint64(r.Offset)) + word(r.Producer) + longs(uint64(r.Seq)) + word(r.Key) + word(r.Value))
	}
	return out
}

// files are what a disk has, by their names.
type files map[string]string

func found(t *testing.T, d *disk.Disk) files {
	t.Helper()
	names, e := d.List()
	if e != api.OK {
		t.Fatalf("List: %d", e)
	}
	out := files{}
	for _, name := range names {
		s, e := d.Read(name)
		if e != api.OK {
			t.Fatalf("Read(%q): %d", name, e)
		}
		out[name] = s
	}
	return out
}

func wantFiles(t *testing.T, d *disk.Disk, want files) {
	t.Helper()
	got := found(t, d)
	for name, s := range got {
		if w, ok := want[name]; !ok || s != w {
			t.Errorf("file %q: %s; want %s, %v", name, brief(s), brief(w), ok)
		}
	}
	for name, w := range want {
		if _, ok := got[name]; !ok {
			t.Errorf("no file %q; want %s", name, brief(w))
		}
	}
}

// brief is a text, if it is short, and else how long it is.
func brief(s string) string {
	if len(s) > 200 {
		return strconv.Itoa(len(s)) + " bytes"
	}
	return strconv.Quote(s)
}

// keepAll are keeps that keep all there is of a few files.
func keepAll() []int { return slices.Repeat([]int{1 << 30}, 20) }

// laid is a disk that has these files, all of which last.
func laid(t *testing.T, room int, have files) *disk.Disk {
	t.Helper()
	d, e := disk.New(room)
	for name, s := range have {
		e = max(e, d.Create(name), d.Append(name, s), d.Sync(name))
	}
	if e = max(e, d.DirSync()); e != api.OK {
		t.Fatalf("a disk of %d files: %d", len(have), e)
	}
	return d
}

// opened is a log that must be there.
func opened(t *testing.T, d *disk.Disk, topic string, limit int) *logstore.Log {
	t.Helper()
	x, e := logstore.Open(d, topic, limit)
	if e != api.OK || x == nil {
		t.Fatalf("Open(%q, %d): %v, %d", topic, limit, x, e)
	}
	return x
}

// filled is a log of the topic t on a disk of its own, to which records of these offsets were appended.
func filled(t *testing.T, limit int, numbers ...int) (*disk.Disk, *logstore.Log) {
	t.Helper()
	d := laid(t, 20000, nil)
	x := opened(t, d, "t", limit)
	appended(t, x, numbers...)
	return d, x
}

func appended(t *testing.T, x *logstore.Log, numbers ...int) {
	t.Helper()
	for _, n := range numbers {
		if e := x.Append(rec(n)); e != api.OK {
			t.Fatalf("Append(%d): %d", n, e)
		}
	}
}

// told is all that a log tells of itself.
type told struct {
	low, end int
	segments []api.Segment
	records  []api.Record
}

func tells(t *testing.T, x *logstore.Log) told {
	t.Helper()
	l, e := x.Read(0, 1000000)
	if e != api.OK {
		t.Fatalf("Read: %d", e)
	}
	return told{x.Low(), x.End(), x.Segments(), l}
}

func (a told) same(b told) bool {
	return a.low == b.low && a.end == b.end && slices.Equal(a.segments, b.segments) && slices.Equal(a.records, b.records)
}

// wantLog holds all that a log tells against what it must be.
func wantLog(t *testing.T, x *logstore.Log, low, end int, segments []api.Segment, records []api.Record) {
	t.Helper()
	if got, want := tells(t, x), (told{low, end, segments, records}); !got.same(want) {
		t.Errorf("low %d, end %d, segments %v, records %v; want %d, %d, %v, %v", got.low, got.end, got.segments, offsets(got.records), low, end, segments, offsets(records))
	}
}

// refused holds a call against its error, and looks whether anything has changed.
func refused(t *testing.T, d *disk.Disk, x *logstore.Log, want api.Errno, do func() api.Errno) {
	t.Helper()
	before, had := tells(t, x), found(t, d)
	d.Fuse(0) // not even an act that changes nothing is done
	if e := do(); e != want {
		t.Errorf("error %d; want %d", e, want)
	}
	if d.Down() {
		t.Fatal("an act was asked for")
	}
	d.Fuse(-1)
	if !tells(t, x).same(before) {
		t.Errorf("told %v; was %v", tells(t, x), before)
	}
	wantFiles(t, d, had)
}

// acts is how many acts of the disk a call takes: with a fuse of fewer it ends with ErrDown.
func acts(t *testing.T, make func() (*disk.Disk, func() api.Errno)) int {
	t.Helper()
	for n := range 100 {
		d, do := make()
		d.Fuse(n)
		e := do()
		if e == api.OK && !d.Down() {
			return n
		}
		if e != api.ErrDown || !d.Down() {
			t.Fatalf("behind %d acts: %d, down %v", n, e, d.Down())
		}
	}
	t.Fatal("no end of acts")
	return 0
}

// plain is a log as the chapter tells it, that keeps nothing but its disk: what it is it reads there, each time.
type plain struct {
	d     *disk.Disk
	topic string
	limit int
}

func (p plain) name(s api.Segment) string {
	return p.topic + "." + strconv.Itoa(s.Base) + "." + strconv.Itoa(s.Gen)
}

// says is what the manifest says; ErrForm, if it is not of its form, ErrNone, if there is none.
func (p plain) says() (low int, segments []api.Segment, e api.Errno) {
	s, e := p.d.Read(p.topic + ".m")
	if e != api.OK {
		return 0, nil, e
	}
	if len(s) < 32 || len(s) > 8+8*1000 || len(s)%16 != 0 || framed(s[8:]) != s {
		return 0, nil, api.ErrForm
	}
	var numbers []int
	for at := 8; at < len(s); at += 8 {
		n := binary.BigEndian.Uint64([]byte(s[at:]))
		if n > great {
			return 0, nil, api.ErrForm
		}
		numbers = append(numbers, int(n))
	}
	for i := 1; i < len(numbers); i += 2 {
		if i > 1 && numbers[i] <= numbers[i-2] || i == 1 && numbers[1] > numbers[0] {
			return 0, nil, api.ErrForm
		}
		segments = append(segments, api.Segment{Base: numbers[i], Gen: numbers[i+1]})
	}
	return numbers[0], segments, api.OK
}

// now is the log as its files say.
func (p plain) now() told {
	low, segments, e := p.says()
	if e != api.OK {
		panic("no manifest")
	}
	out := told{low: low, segments: segments, end: max(low, segments[len(segments)-1].Base)}
	for i, x := range segments {
		s, _ := p.d.Read(p.name(x))
		segments[i].Size = len(s)
		l, _, _ := segment.Scan(x.Base, s)
		for _, r := range l {
			out.end = max(out.end, r.Offset+1)
			if r.Offset >= low {
				out.records = append(out.records, r)
			}
		}
	}
	return out
}

// first does one thing behind the other, up to the first that is refused.
func first(do ...func() api.Errno) api.Errno {
	for _, f := range do {
		if e := f(); e != api.OK {
			return e
		}
	}
	return api.OK
}

func (p plain) gone(name string) func() api.Errno {
	return func() api.Errno {
		if _, e := p.d.Read(name); e == api.ErrNone {
			return api.OK
		}
		return p.d.Remove(name)
	}
}

func (p plain) made(name, s string) func() api.Errno {
	return func() api.Errno {
		return first(p.gone(name), func() api.Errno { return p.d.Create(name) }, func() api.Errno {
			if s == "" {
				return api.OK
			}
			return p.d.Append(name, s)
		}, func() api.Errno { return p.d.Sync(name) })
	}
}

func (p plain) written(low int, segments []api.Segment) func() api.Errno {
	numbers := []int{low}
	for _, x := range segments {
		numbers = append(numbers, x.Base, x.Gen)
	}
	return func() api.Errno {
		return first(p.made(p.topic+".t", manifest(numbers...)), func() api.Errno { return p.d.Rename(p.topic+".t", p.topic+".m") }, p.d.DirSync)
	}
}

func (p plain) open() api.Errno {
	if p.d.Down() {
		return api.ErrDown
	}
	_, segments, e := p.says()
	if e == api.ErrForm {
		return e
	}
	stay := map[string]bool{}
	if e == api.OK {
		stay[p.topic+".m"] = true
	}
	for _, x := range segments {
		stay[p.name(x)] = true
	}
	names, _ := p.d.List()
	for _, name := range names {
		if strings.HasPrefix(name, p.topic+".") && len(name) > len(p.topic)+1 && !stay[name] {
			if e := p.d.Remove(name); e != api.OK {
				return e
			}
		}
	}
	if e == api.ErrNone {
		return first(p.made(p.topic+".0.0", ""), p.written(0, []api.Segment{{}}))
	}
	for i, x := range segments {
		s, e := p.d.Read(p.name(x))
		if e != api.OK {
			return api.ErrForm
		}
		l, good, e := segment.Scan(x.Base, s)
		if i == len(segments)-1 {
			if good == len(s) {
				return api.OK
			}
			return first(func() api.Errno { return p.d.Truncate(p.name(x), good) }, func() api.Errno { return p.d.Sync(p.name(x)) })
		}
		if e != api.OK || len(l) > 0 && l[len(l)-1].Offset >= segments[i+1].Base {
			return api.ErrForm
		}
	}
	panic("no segment")
}

func (p plain) add(r api.Record) api.Errno {
	now := p.now()
	if !segment.Right(r) {
		return api.ErrArg
	}
	if r.Offset < now.end {
		return api.ErrOrder
	}
	active := now.segments[len(now.segments)-1]
	if active.Size >= p.limit {
		fresh := api.Segment{Base: r.Offset}
		if e := first(p.sync, p.made(p.name(fresh), ""), p.written(now.low, append(now.segments, fresh))); e != api.OK {
			return e
		}
		active = fresh
	}
	return p.d.Append(p.name(active), text(r))
}

func (p plain) sync() api.Errno {
	l := p.now().segments
	return p.d.Sync(p.name(l[len(l)-1]))
}

func (p plain) read(offset, most int) []api.Record {
	var out []api.Record
	for _, r := range p.now().records {
		if r.Offset >= offset && len(out) < most {
			out = append(out, r)
		}
	}
	return out
}

func (p plain) trim(low int) api.Errno {
	now := p.now()
	if low <= now.low {
		return api.OK
	}
	if low > now.end || low > great {
		return api.ErrArg
	}
	var going []func() api.Errno
	for len(now.segments) > 1 && now.segments[1].Base <= low {
		going = append(going, p.gone(p.name(now.segments[0])))
		now.segments = now.segments[1:]
	}
	return first(append([]func() api.Errno{p.written(low, now.segments)}, going...)...)
}

func (p plain) swap(i int, l []api.Record) api.Errno {
	now := p.now()
	if i < 0 || i > len(now.segments)-2 {
		return api.ErrNone
	}
	old := now.segments[i]
	for j, r := range l {
		if !segment.Right(r) || r.Offset < old.Base || r.Offset >= now.segments[i+1].Base || j > 0 && r.Offset <= l[j-1].Offset {
			return api.ErrArg
		}
	}
	now.segments[i].Gen++
	return first(p.made(p.name(now.segments[i]), text(l...)), p.written(now.low, now.segments), p.gone(p.name(old)))
}
