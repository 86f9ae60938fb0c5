package subs_test

import (
	"encoding/binary"
	"fmt"
	"slices"
	"strconv"
	"strings"
	"testing"

	"carillon/api"
	"carillon/subs"
	"carillon/topic"
)

// great is 2^53 - 1.
const great = 9007199254740991

const wordBytes = "abcdefghijklmnopqrstuvwxyz0123456789"

func size(s string, n int) string { return strings.Repeat(s, n) }

func sub(name, topic string, cursor, next int) subs.Sub {
	return subs.Sub{Name: name, Topic: topic, Cursor: cursor, Next: next}
}

// st is a subscription s of the topic t.
func st(cursor, next int) subs.Sub { return sub("s", "t", cursor, next) }

// rec is the record of an offset, as all topics of these tests have it.
func rec(offset int) api.Record {
	return api.Record{Offset: offset, Producer: "p", Seq: offset, Key: keyOf(offset), Value: "v" + strconv.Itoa(offset)}
}

// keyOf is one of three, or none, so that a Compact has some go.
func keyOf(offset int) string { return []string{"a", "b", "", "c"}[offset%4] }

// recs are the records from one offset up to another one.
func recs(from, end int) []api.Record {
	var l []api.Record
	for n := from; n < end; n++ {
		l = append(l, rec(n))
	}
	return l
}

// these are the records of some offsets.
func these(offsets ...int) []api.Record {
	var l []api.Record
	for _, n := range offsets {
		l = append(l, rec(n))
	}
	return l
}

func plainWord(s string) bool {
	for _, b := range []byte(s) {
		if strings.IndexByte(wordBytes, b) < 0 {
			return false
		}
	}
	return len(s) >= 1 && len(s) <= 20
}

// plain is a topic that is a list, which is gone through each time it is asked.
type plain struct {
	name     string
	low, end int
	records  []api.Record
}

func (p *plain) publish() {
	p.records = append(p.records, rec(p.end))
	p.end++
}

func (p *plain) trim(n int) {
	if n <= p.low || n > p.end {
		return
	}
	p.low = n
	p.records = slices.DeleteFunc(p.records, func(r api.Record) bool { return r.Offset < n })
}

func (p *plain) compact(upto int) {
	var stay []api.Record
	for i, r := range p.records {
		later := slices.ContainsFunc(p.records[i+1:], func(x api.Record) bool { return x.Key == r.Key })
		if r.Key == "" || r.Offset >= upto || !later {
			stay = append(stay, r)
		}
	}
	p.records = stay
}

// bytes are those of a topic's Dump, as chapter 15 tells them, without what its producers got.
func (p *plain) bytes() string {
	long := func(n int) string { return string(binary.BigEndian.AppendUint64(nil, uint64(n))) }
	text := func(s string) string { return string(binary.BigEndian.AppendUint32(nil, uint32(len(s)))) + s }
	s := text(p.name) + long(p.low) + long(p.end) + long(0)
	for _, r := range p.records {
		s += long(r.Offset) + text(r.Producer) + long(r.Seq) + text(r.Key) + text(r.Value)
	}
	return s
}

func plainRight(s subs.Sub) bool {
	switch {
	case !plainWord(s.Name), !plainWord(s.Topic):
		return false
	case s.Cursor < 0, s.Next < s.Cursor, s.Next > great:
		return false
	}
	return true
}

func (p *plain) new(name string, first int) (subs.Sub, int) {
	if !plainWord(name) || first > p.end {
		return subs.Sub{}, api.RArg
	}
	if first < 0 {
		return sub(name, p.name, p.end, p.end), api.ROK
	}
	return sub(name, p.name, first, first), api.ROK
}

func (p *plain) poll(s subs.Sub, many int) (subs.Sub, []api.Record, int) {
	if !plainRight(s) || s.Topic != p.name || s.Next > p.end || many < 1 || many > 50 {
		return s, nil, api.RArg
	}
	free := s.Cursor
	if p.low > free {
		free = p.low
	}
	var told []api.Record
	for _, r := range p.records {
		if r.Offset >= s.Next && r.Offset-free < 100 && len(told) < many {
			told = append(told, r)
		}
	}
	for _, r := range told {
		s.Next = r.Offset + 1
	}
	return s, told, api.ROK
}

func plainAck(s subs.Sub, offset int) (subs.Sub, int) {
	if !plainRight(s) || offset < 0 || offset >= s.Next {
		return s, api.RArg
	}
	if s.Cursor <= offset {
		s.Cursor = offset + 1
	}
	return s, api.ROK
}

func (p *plain) seek(s subs.Sub, offset int) (subs.Sub, int) {
	if !plainRight(s) || s.Topic != p.name || offset < 0 || offset > p.end {
		return s, api.RArg
	}
	return sub(s.Name, s.Topic, offset, offset), api.ROK
}

// made tells a topic t with the records 0 to many - 1.
func made(t *testing.T, many int) *topic.Topic {
	t.Helper()
	return loaded(t, plain{name: "t", end: many, records: recs(0, many)})
}

// loaded tells a topic as a plain one is: by Load, or, where that is too much for a Dump, by publishing, which a topic of records without gaps allows.
func loaded(t *testing.T, p plain) *topic.Topic {
	t.Helper()
	if len(p.records) < 190 {
		x, e := topic.Load(p.bytes())
		if e != api.OK {
			t.Fatalf("Load(%v): %d", p, e)
		}
		return x
	}
	x, e := topic.New(p.name)
	if e != api.OK {
		t.Fatalf("New(%q): %d", p.name, e)
	}
	for n := range p.end {
		publish(t, x, n)
	}
	x.Trim(p.low)
	if l := x.Read(0, p.end+1); !slices.Equal(l, p.records) {
		t.Fatalf("%v; want %v", l, p.records)
	}
	return x
}

func publish(t *testing.T, x *topic.Topic, n int) {
	t.Helper()
	r := rec(n)
	if offset, code := x.Publish(r.Producer, r.Seq, r.Key, r.Value); offset != n || code != api.ROK {
		t.Fatalf("Publish of %d: %d, %d", n, offset, code)
	}
}

// state is all that can be asked of a topic.
type state struct {
	name     string
	low, end int
	records  string
	dump     string
}

func stateOf(x *topic.Topic) state {
	return state{x.Name(), x.Low(), x.End(), fmt.Sprintf("%+v", x.Read(0, 100000)), x.Dump()}
}

// same asks that a topic is as it was.
func same(t *testing.T, what string, x *topic.Topic, was state) {
	t.Helper()
	if now := stateOf(x); now != was {
		t.Errorf("%s: the topic is %v; it was %v", what, now, was)
	}
}

func wantNew(t *testing.T, x *topic.Topic, name string, first int, want subs.Sub, code int) {
	t.Helper()
	was := stateOf(x)
	if s, c := subs.New(name, x, first); s != want || c != code {
		t.Errorf("New(%q, %d): %v, %d; want %v, %d", name, first, s, c, want, code)
	}
	same(t, "New", x, was)
}

func wantAttach(t *testing.T, s, want subs.Sub) subs.Sub {
	t.Helper()
	got := subs.Attach(s)
	if got != want {
		t.Errorf("Attach(%v): %v; want %v", s, got, want)
	}
	return got
}

// wantPoll asks for ROK, these records, and a Next; all else of the subscription as it was.
func wantPoll(t *testing.T, s subs.Sub, x *topic.Topic, many, next int, want ...api.Record) subs.Sub {
	t.Helper()
	was := stateOf(x)
	got, l, code := subs.Poll(s, x, many)
	if got != sub(s.Name, s.Topic, s.Cursor, next) || !slices.Equal(l, want) || code != api.ROK {
		t.Errorf("Poll(%v, %d): %v, %v, %d; want %d, %v", s, many, got, l, code, next, want)
	}
	same(t, "Poll", x, was)
	return got
}

// wantAck asks for ROK and a Cursor; all else of the subscription as it was.
func wantAck(t *testing.T, s subs.Sub, offset, cursor int) subs.Sub {
	t.Helper()
	got, code := subs.Ack(s, offset)
	if got != sub(s.Name, s.Topic, cursor, s.Next) || code != api.ROK {
		t.Errorf("Ack(%v, %d): %v, %d; want the cursor %d", s, offset, got, code, cursor)
	}
	return got
}

// wantSeek asks for ROK, and that Cursor and Next are the offset.
func wantSeek(t *testing.T, s subs.Sub, x *topic.Topic, offset int) subs.Sub {
	t.Helper()
	was := stateOf(x)
	got, code := subs.Seek(s, x, offset)
	if got != sub(s.Name, s.Topic, offset, offset) || code != api.ROK {
		t.Errorf("Seek(%v, %d): %v, %d", s, offset, got, code)
	}
	same(t, "Seek", x, was)
	return got
}

// noPoll asks for RArg, the subscription as it was, and nothing else.
func noPoll(t *testing.T, s subs.Sub, x *topic.Topic, many int) {
	t.Helper()
	was := stateOf(x)
	if got, l, code := subs.Poll(s, x, many); got != s || len(l) != 0 || code != api.RArg {
		t.Errorf("Poll(%v, %d): %v, %v, %d", s, many, got, l, code)
	}
	same(t, "Poll", x, was)
}

func noAck(t *testing.T, s subs.Sub, offset int) {
	t.Helper()
	if got, code := subs.Ack(s, offset); got != s || code != api.RArg {
		t.Errorf("Ack(%v, %d): %v, %d", s, offset, got, code)
	}
}

func noSeek(t *testing.T, s subs.Sub, x *topic.Topic, offset int) {
	t.Helper()
	was := stateOf(x)
	if got, code := subs.Seek(s, x, offset); got != s || code != api.RArg {
		t.Errorf("Seek(%v, %d): %v, %d", s, offset, got, code)
	}
	same(t, "Seek", x, was)
}

// both has a topic and a subscription of the program's, and plain ones, do the same, and keeps what it was, for a failure's line.
type both struct {
	x    *topic.Topic
	p    plain
	s    subs.Sub
	done strings.Builder
}

func bothOf(t *testing.T, p plain, s subs.Sub) *both {
	t.Helper()
	p.records = slices.Clone(p.records)
	return &both{x: loaded(t, p), p: p, s: s}
}

func (b *both) note(what string, n int) { fmt.Fprintf(&b.done, " %s(%d)", what, n) }

func (b *both) publish(t *testing.T) {
	t.Helper()
	b.note("Publish", b.p.end)
	publish(t, b.x, b.p.end)
	b.p.publish()
}

func (b *both) trim(n int) {
	b.note("Trim", n)
	b.x.Trim(n)
	b.p.trim(n)
}

func (b *both) compact(upto int) {
	b.note("Compact", upto)
	b.x.Compact(upto)
	b.p.compact(upto)
}

func (b *both) renew(t *testing.T, name string, first int) {
	t.Helper()
	b.note("New "+name, first)
	s, code := subs.New(name, b.x, first)
	want, c := b.p.new(name, first)
	if s != want || code != c {
		t.Fatalf("%s: %v, %d; want %v, %d", b.done.String(), s, code, want, c)
	}
	if code == api.ROK {
		b.s = s
	}
}

func (b *both) attach(t *testing.T) {
	t.Helper()
	b.note("Attach", b.s.Cursor)
	want := sub(b.s.Name, b.s.Topic, b.s.Cursor, b.s.Cursor)
	if b.s = subs.Attach(b.s); b.s != want {
		t.Fatalf("%s: %v; want %v", b.done.String(), b.s, want)
	}
}

// poll tells the offsets that were told.
func (b *both) poll(t *testing.T, many int) []int {
	t.Helper()
	b.note("Poll", many)
	s, l, code := subs.Poll(b.s, b.x, many)
	want, records, c := b.p.poll(b.s, many)
	if s != want || !slices.Equal(l, records) || code != c {
		t.Fatalf("%s: %v, %v, %d; want %v, %v, %d", b.done.String(), s, l, code, want, records, c)
	}
	b.s = s
	var offsets []int
	for _, r := range l {
		offsets = append(offsets, r.Offset)
	}
	return offsets
}

func (b *both) ack(t *testing.T, offset int) {
	t.Helper()
	b.note("Ack", offset)
	s, code := subs.Ack(b.s, offset)
	if want, c := plainAck(b.s, offset); s != want || code != c {
		t.Fatalf("%s: %v, %d; want %v, %d", b.done.String(), s, code, want, c)
	}
	b.s = s
}

func (b *both) seek(t *testing.T, offset int) {
	t.Helper()
	b.note("Seek", offset)
	s, code := subs.Seek(b.s, b.x, offset)
	if want, c := b.p.seek(b.s, offset); s != want || code != c {
		t.Fatalf("%s: %v, %d; want %v, %d", b.done.String(), s, code, want, c)
	}
	b.s = s
}

// hold asks that the topic is the plain one.
func (b *both) hold(t *testing.T) {
	t.Helper()
	if b.x.Name() != b.p.name || b.x.Low() != b.p.low || b.x.End() != b.p.end || !slices.Equal(b.x.Read(0, b.p.end+1), b.p.records) {
		t.Fatalf("%s: %v; want %v", b.done.String(), stateOf(b.x), b.p)
	}
}

// walk tells numbers below a bound, one behind the other, without a random source.
func walk(seed uint32) func(below int) int {
	return func(below int) int {
		seed = seed*1664525 + 1013904223
		return int(seed>>8) % below
	}
}
