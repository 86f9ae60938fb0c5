package topic_test

import (
	"encoding/binary"
	"fmt"
	"slices"
	"strings"
	"testing"

	"carillon/api"
	"carillon/topic"
)

// great is 2^53 - 1.
const great = 9007199254740991

func long(n uint64) string        { return string(binary.BigEndian.AppendUint64(nil, n)) }
func four(n uint32) string        { return string(binary.BigEndian.AppendUint32(nil, n)) }
func text(s string) string        { return four(uint32(len(s))) + s }
func size(s string, n int) string { return strings.Repeat(s, n) }

func rec(offset int, producer string, seq int, key, value string) api.Record {
	return api.Record{Offset: offset, Producer: producer, Seq: seq, Key: key, Value: value}
}

// who is a producer: its name, its last Seq, its Offset.
type who struct {
	name        string
	seq, offset int
}

// form is what a Dump says, right or not.
type form struct {
	name      string
	low, end  int
	many      int // how many producers it says that there are
	producers []who
	records   []api.Record
}

// bytes are those of a form as the chapter tells them, right or not.
func (f form) bytes() string {
	s := text(f.name) + long(uint64(f.low)) + long(uint64(f.end)) + long(uint64(f.many))
	for _, p := range f.producers {
		s += text(p.name) + long(uint64(p.seq)) + long(uint64(p.offset))
	}
	for _, r := range f.records {
		s += long(uint64(r.Offset)) + text(r.Producer) + long(uint64(r.Seq)) + text(r.Key) + text(r.Value)
	}
	return s
}

func (f form) items() int { return 4 + 3*len(f.producers) + 5*len(f.records) }

const wordBytes = "abcdefghijklmnopqrstuvwxyz0123456789"

func plainWord(s string) bool {
	for _, b := range []byte(s) {
		if strings.IndexByte(wordBytes, b) < 0 {
			return false
		}
	}
	return len(s) >= 1 && len(s) <= 20
}

// may asks whether a form says a topic that may be.
func (f form) may() bool {
	if !plainWord(f.name) || f.low < 0 || f.low > f.end || f.end > great || f.many != len(f.producers) || f.items() > 1000 {
		return false
	}
	for i, p := range f.producers {
		if !plainWord(p.name) || p.seq < 0 || p.seq > great || p.offset < 0 || p.offset >= f.end {
			return false
		}
		for _, ahead := range f.producers[:i] {
			if strings.Compare(ahead.name, p.name) >= 0 {
				return false
			}
		}
	}
	for i, r := range f.records {
		if r.Offset < f.low || r.Offset >= f.end || len(r.Producer) > 20 || r.Seq < 0 || r.Seq > great || len(r.Key) > 100 || len(r.Value) > 1000 {
			return false
		}
		for _, ahead := range f.records[:i] {
			if ahead.Offset >= r.Offset {
				return false
			}
		}
	}
	return true
}

// reader takes bytes off a text, and notes where there are too few.
type reader struct {
	rest  string
	short bool
}

func (r *reader) take(n uint64) string {
	if n > uint64(len(r.rest)) {
		r.rest, r.short = "", true
		return ""
	}
	s := r.rest[:n]
	r.rest = r.rest[n:]
	return s
}

func (r *reader) number(n uint64) uint64 {
	var out uint64
	for _, b := range []byte(r.take(n)) {
		out = out<<8 | uint64(b)
	}
	return out
}

func (r *reader) long() int    { return int(r.number(8)) }
func (r *reader) text() string { return r.take(r.number(4)) }

// plainLoad reads a form, and tells whether it is one of a topic that may be.
func plainLoad(s string) (form, bool) {
	r := &reader{rest: s}
	f := form{name: r.text(), low: r.long(), end: r.long(), many: r.long()}
	for i := 0; !r.short && i < f.many; i++ {
		f.producers = append(f.producers, who{r.text(), r.long(), r.long()})
	}
	for !r.short && r.rest != "" {
		f.records = append(f.records, rec(r.long(), r.text(), r.long(), r.text(), r.text()))
	}
	if r.short || !f.may() {
		return form{}, false
	}
	return f, true
}

// plain is a topic that is told by a list of all, which is gone through each time it is asked.
type plain struct {
	form
}

func (p *plain) publish(producer string, seq int, key, value string) (int, int) {
	if !plainWord(producer) || seq < 0 || seq > great || len(key) > 100 || len(value) > 1000 {
		return 0, api.RArg
	}
	at := slices.IndexFunc(p.producers, func(w who) bool { return w.name == producer })
	if at >= 0 && p.producers[at].seq == seq {
		return p.producers[at].offset, api.ROK
	}
	if at >= 0 && p.producers[at].seq > seq {
		return 0, api.ROld
	}
	got := p.end
	if at >= 0 {
		p.producers = slices.Delete(p.producers, at, at+1)
	} else {
		p.many++
	}
	p.producers = append(p.producers, who{producer, seq, got})
	slices.SortFunc(p.producers, func(x, y who) int { return strings.Compare(x.name, y.name) })
	p.records = append(p.records, rec(got, producer, seq, key, value))
	p.end = got + 1
	return got, api.ROK
}

func (p *plain) read(offset, most int) []api.Record {
	var l []api.Record
	for _, r := range p.records {
		if r.Offset >= offset && len(l) < most {
			l = append(l, r)
		}
	}
	return l
}

func (p *plain) trim(n int) int {
	if n <= p.low {
		return api.ROK
	}
	if n > p.end {
		return api.RArg
	}
	p.low = n
	p.records = p.read(n, len(p.records))
	return api.ROK
}

func (p *plain) compact(upto int) int {
	var stay []api.Record
	for i, r := range p.records {
		later := slices.ContainsFunc(p.records[i+1:], func(x api.Record) bool { return x.Key == r.Key })
		if r.Key == "" || r.Offset >= upto || !later {
			stay = append(stay, r)
		}
	}
	p.records = stay
	return api.ROK
}

func (p *plain) dump() string {
	if p.items() > 1000 {
		return ""
	}
	return p.bytes()
}

// made tells a topic of a name, which must be a word.
func made(t *testing.T, name string) *topic.Topic {
	t.Helper()
	x, e := topic.New(name)
	if e != api.OK || x == nil {
		t.Fatalf("New(%q): %v, %d", name, x, e)
	}
	return x
}

// loaded tells a topic of a form, which must be one that may be.
func loaded(t *testing.T, f form) *topic.Topic {
	t.Helper()
	x, e := topic.Load(f.bytes())
	if e != api.OK || x == nil {
		t.Fatalf("Load(%v): %v, %d", f, x, e)
	}
	return x
}

func wantPublish(t *testing.T, x *topic.Topic, producer string, seq int, key, value string, offset, code int) {
	t.Helper()
	if n, c := x.Publish(producer, seq, key, value); n != offset || c != code {
		t.Errorf("Publish(%q, %d, %d bytes, %d bytes): %d, %d; want %d, %d", producer, seq, len(key), len(value), n, c, offset, code)
	}
}

func wantRead(t *testing.T, x *topic.Topic, offset, most int, want ...api.Record) {
	t.Helper()
	if l := x.Read(offset, most); !slices.Equal(l, want) {
		t.Errorf("Read(%d, %d): %v; want %v", offset, most, l, want)
	}
}

func wantTrim(t *testing.T, x *topic.Topic, n, code int) {
	t.Helper()
	if c := x.Trim(n); c != code {
		t.Errorf("Trim(%d): %d; want %d", n, c, code)
	}
}

func wantCompact(t *testing.T, x *topic.Topic, upto int) {
	t.Helper()
	if c := x.Compact(upto); c != api.ROK {
		t.Errorf("Compact(%d): %d", upto, c)
	}
}

// wantForm asks that a topic is what a form says: by its marks, by Read, and by Dump.
func wantForm(t *testing.T, x *topic.Topic, f form) {
	t.Helper()
	f.many = len(f.producers)
	if x.Name() != f.name || x.Low() != f.low || x.End() != f.end {
		t.Errorf("%q, %d to %d; want %q, %d to %d", x.Name(), x.Low(), x.End(), f.name, f.low, f.end)
	}
	wantRead(t, x, 0, len(f.records)+1, f.records...)
	if s := x.Dump(); s != f.bytes() {
		t.Errorf("Dump: %q; want %q", s, f.bytes())
	}
}

// wantErrForm asks that there is no topic of these bytes.
func wantErrForm(t *testing.T, what, s string) {
	t.Helper()
	if x, e := topic.Load(s); x != nil || e != api.ErrForm {
		t.Errorf("Load of %s: %v, %d", what, x, e)
	}
}

// both has a topic of the program's and a plain one do the same, and keeps what it was, for a failure's line.
type both struct {
	x    *topic.Topic
	p    plain
	done strings.Builder
}

func bothOf(t *testing.T, name string) *both {
	t.Helper()
	return &both{x: made(t, name), p: plain{form{name: name}}}
}

func bothLoaded(t *testing.T, f form) *both {
	t.Helper()
	f.producers, f.records = slices.Clone(f.producers), slices.Clone(f.records)
	return &both{x: loaded(t, f), p: plain{f}}
}

func (b *both) publish(t *testing.T, producer string, seq int, key, value string) {
	t.Helper()
	fmt.Fprintf(&b.done, " Publish(%q, %d, %q, %d bytes)", producer, seq, key, len(value))
	n, c := b.x.Publish(producer, seq, key, value)
	if offset, code := b.p.publish(producer, seq, key, value); n != offset || c != code {
		t.Fatalf("%s: %d, %d; want %d, %d", b.done.String(), n, c, offset, code)
	}
}

func (b *both) trim(t *testing.T, n int) {
	t.Helper()
	fmt.Fprintf(&b.done, " Trim(%d)", n)
	if c, code := b.x.Trim(n), b.p.trim(n); c != code {
		t.Fatalf("%s: %d; want %d", b.done.String(), c, code)
	}
}

func (b *both) compact(t *testing.T, upto int) {
	t.Helper()
	fmt.Fprintf(&b.done, " Compact(%d)", upto)
	if c, code := b.x.Compact(upto), b.p.compact(upto); c != code {
		t.Fatalf("%s: %d; want %d", b.done.String(), c, code)
	}
}

// reload goes on with the topic that Load tells of the Dump, if there is one.
func (b *both) reload(t *testing.T) {
	t.Helper()
	fmt.Fprintf(&b.done, " reload")
	x, e := topic.Load(b.x.Dump())
	if b.p.items() > 1000 || b.p.end > great {
		if x != nil || e != api.ErrForm {
			t.Fatalf("%s: %v, %d", b.done.String(), x, e)
		}
		return
	}
	if e != api.OK {
		t.Fatalf("%s: %d", b.done.String(), e)
	}
	b.x = x
}

// hold asks that both are the same, by all that can be asked.
func (b *both) hold(t *testing.T) {
	t.Helper()
	x, p := b.x, &b.p
	if x.Name() != p.name || x.Low() != p.low || x.End() != p.end {
		t.Fatalf("%s: %q, %d to %d; want %q, %d to %d", b.done.String(), x.Name(), x.Low(), x.End(), p.name, p.low, p.end)
	}
	if x.Dump() != p.dump() {
		t.Fatalf("%s: Dump: %q; want %q", b.done.String(), x.Dump(), p.dump())
	}
	b.read(t, 0, len(p.records)+1)
}

func (b *both) read(t *testing.T, offset, most int) {
	t.Helper()
	if got, want := b.x.Read(offset, most), b.p.read(offset, most); !slices.Equal(got, want) {
		t.Fatalf("%s: Read(%d, %d): %v; want %v", b.done.String(), offset, most, got, want)
	}
}

// walk tells numbers below a bound, one behind the other, without a random source.
func walk(seed uint32) func(below int) int {
	return func(below int) int {
		seed = seed*1664525 + 1013904223
		return int(seed>>8) % below
	}
}
