package machine_test

import (
	"encoding/binary"
	"fmt"
	"maps"
	"slices"
	"strconv"
	"strings"
	"testing"

	"carillon/api"
	"carillon/command"
	"carillon/machine"
	"carillon/subs"
)

// great is 2^53 - 1.
const great = 9007199254740991

// prime is that of the digests.
const prime = 33554383

func size(s string, n int) string { return strings.Repeat(s, n) }

func word(head string, n int) string { return head + strconv.Itoa(n) }

func create(topic string) api.Command {
	return api.Command{Kind: api.CCreate, Topic: topic}
}

func publish(topic, producer string, seq int, key, value string) api.Command {
	return api.Command{Kind: api.CPublish, Topic: topic, Name: producer, Seq: seq, Key: key, Value: value}
}

func subscribe(topic, name string, first int) api.Command {
	return api.Command{Kind: api.CSubscribe, Topic: topic, Name: name, N: first}
}

func attach(name string) api.Command {
	return api.Command{Kind: api.CAttach, Name: name}
}

func poll(name string, many int) api.Command {
	return api.Command{Kind: api.CPoll, Name: name, N: many}
}

func ack(name string, offset int) api.Command {
	return api.Command{Kind: api.CAck, Name: name, N: offset}
}

func seek(name string, offset int) api.Command {
	return api.Command{Kind: api.CSeek, Name: name, N: offset}
}

func trim(topic string, n int) api.Command {
	return api.Command{Kind: api.CTrim, Topic: topic, N: n}
}

func compact(topic string, upto int) api.Command {
	return api.Command{Kind: api.CCompact, Topic: topic, N: upto}
}

func join(node int) api.Command {
	return api.Command{Kind: api.CJoin, N: node}
}

func leave(node int) api.Command {
	return api.Command{Kind: api.CLeave, N: node}
}

// code is that of a command as chapter 14 tells it, right or not.
func code(c api.Command) string {
	long := func(n int) string { return string(binary.BigEndian.AppendUint64(nil, uint64(n))) }
	text := func(s string) string { return string(binary.BigEndian.AppendUint32(nil, uint32(len(s)))) + s }
	return string([]byte{byte(c.Kind)}) + text(c.Topic) + text(c.Name) + long(c.Seq) + text(c.Key) + text(c.Value) +
		long(c.N+1) + string([]byte{byte(c.Node)}) + long(c.Ask)
}

// plainTopic keeps all that was ever published, beside what is left of it, and is gone through each time it is asked.
type plainTopic struct {
	low     int
	all     []api.Record
	records []api.Record
}

func (x *plainTopic) publish(c api.Command) api.Reply {
	last := -1
	for i, r := range x.all {
		if r.Producer == c.Name {
			last = i
		}
	}
	if last >= 0 && x.all[last].Seq == c.Seq {
		return api.Reply{Code: api.ROK, N: last}
	}
	if last >= 0 && x.all[last].Seq > c.Seq {
		return api.Reply{Code: api.ROld}
	}
	r := api.Record{Offset: len(x.all), Producer: c.Name, Seq: c.Seq, Key: c.Key, Value: c.Value}
	x.all, x.records = append(x.all, r), append(x.records, r)
	return api.Reply{Code: api.ROK, N: r.Offset}
}

func (x *plainTopic) trim(n int) api.Reply {
	if n > x.low && n > len(x.all) {
		return api.Reply{Code: api.RArg}
	}
	if n > x.low {
		x.low = n
		x.records = slices.DeleteFunc(slices.Clone(x.records), func(r api.Record) bool { return r.Offset < n })
	}
	return api.Reply{Code: api.ROK, N: x.low}
}

func (x *plainTopic) compact(upto int) api.Reply {
	var stay []api.Record
	for i, r := range x.records {
		later := slices.ContainsFunc(x.records[i+1:], func(o api.Record) bool { return o.Key == r.Key })
		if r.Key == "" || r.Offset >= upto || !later {
			stay = append(stay, r)
		}
	}
	x.records = stay
	return api.Reply{Code: api.ROK, N: x.low}
}

// plain is a machine as the chapter tells it, without the layers below it.
type plain struct {
	count  int
	re, im int
	wanted []int
	topics map[string]*plainTopic
	subs   map[string]subs.Sub
}

func plainOf(nodes int) *plain {
	p := &plain{re: 1, topics: map[string]*plainTopic{}, subs: map[string]subs.Sub{}}
	for n := range nodes {
		p.wanted = append(p.wanted, n)
	}
	return p
}

// step is one of a digest: times 2 + 3i, and a number added.
func (p *plain) step(add int) {
	p.re, p.im = (p.re*2-p.im*3+add)%prime, (p.re*3+p.im*2)%prime
	if p.re < 0 {
		p.re += prime
	}
}

// note has a text be done: it counts, and is digested.
func (p *plain) note(s string) {
	p.count++
	p.step(257 + len(s)%prime)
	for _, b := range []byte(s) {
		p.step(int(b) + 1)
	}
}

func (p *plain) apply(s string) api.Reply {
	p.note(s)
	c, e := command.Decode(s)
	if e != api.OK {
		return api.Reply{Code: api.RMalformed}
	}
	switch c.Kind {
	case api.CJoin, api.CLeave:
		return p.want(c)
	case api.CAttach, api.CPoll, api.CAck, api.CSeek:
		return p.ofSub(c)
	}
	return p.ofTopic(c)
}

func (p *plain) want(c api.Command) api.Reply {
	others := slices.DeleteFunc(slices.Clone(p.wanted), func(n int) bool { return n == c.N })
	if c.Kind == api.CJoin {
		others = append(others, c.N)
		slices.Sort(others)
	}
	if len(others) == 0 {
		return api.Reply{Code: api.RArg}
	}
	p.wanted = others
	return api.Reply{Code: api.ROK, N: len(others)}
}

func (p *plain) ofTopic(c api.Command) api.Reply {
	x := p.topics[c.Topic]
	if c.Kind == api.CCreate {
		switch {
		case x != nil:
			return api.Reply{Code: api.RExists}
		case len(p.topics) == 20:
			return api.Reply{Code: api.RFull}
		}
		p.topics[c.Topic] = &plainTopic{}
		return api.Reply{Code: api.ROK}
	}
	if x == nil {
		return api.Reply{Code: api.RNone}
	}
	switch c.Kind {
	case api.CPublish:
		return x.publish(c)
	case api.CTrim:
		return x.trim(c.N)
	case api.CCompact:
		return x.compact(c.N)
	}
	return p.subscribe(c, len(x.all))
}

func (p *plain) subscribe(c api.Command, end int) api.Reply {
	if _, there := p.subs[c.Name]; there {
		return api.Reply{Code: api.RExists}
	}
	if len(p.subs) == 50 {
		return api.Reply{Code: api.RFull}
	}
	if c.N > end {
		return api.Reply{Code: api.RArg}
	}
	first := c.N
	if first < 0 {
		first = end
	}
	p.subs[c.Name] = subs.Sub{Name: c.Name, Topic: c.Topic, Cursor: first, Next: first}
	return api.Reply{Code: api.ROK, N: first}
}

func (p *plain) ofSub(c api.Command) api.Reply {
	s, there := p.subs[c.Name]
	if !there {
		return api.Reply{Code: api.RNone}
	}
	x := p.topics[s.Topic]
	if c.Kind == api.CPoll {
		return p.poll(s, x, c.N)
	}
	switch {
	case c.Kind == api.CAttach:
		s.Next = s.Cursor
	case c.Kind == api.CAck && c.N >= s.Next, c.Kind == api.CSeek && c.N > len(x.all):
		return api.Reply{Code: api.RArg}
	case c.Kind == api.CAck:
		s.Cursor = max(s.Cursor, c.N+1)
	default:
		s.Cursor, s.Next = c.N, c.N
	}
	p.subs[c.Name] = s
	return api.Reply{Code: api.ROK, N: s.Cursor}
}

func (p *plain) poll(s subs.Sub, x *plainTopic, many int) api.Reply {
	var told []api.Record
	for _, r := range x.records {
		if r.Offset >= s.Next && r.Offset < max(s.Cursor, x.low)+100 && len(told) < many {
			told = append(told, r)
		}
	}
	for _, r := range told {
		s.Next = r.Offset + 1
	}
	p.subs[s.Name] = s
	return api.Reply{Code: api.ROK, N: s.Next, Records: told}
}

func sameReply(a, b api.Reply) bool {
	return a.Code == b.Code && a.N == b.N && slices.Equal(a.Records, b.Records)
}

// both has a machine and a plain one do the same, and keeps what it was, for a failure's line.
type both struct {
	m     *machine.Machine
	p     *plain
	names map[string]bool // all that a command spoke of
	texts []string        // all that was done
}

func bothOf(t *testing.T, nodes int) *both {
	t.Helper()
	m, e := machine.New(nodes)
	if e != api.OK || m == nil {
		t.Fatalf("New(%d): %v, %d", nodes, m, e)
	}
	return &both{m: m, p: plainOf(nodes), names: map[string]bool{"": true, "a": true, "s": true, "none": true}}
}

// told is what was done so far; of much the last of it.
func (b *both) told() string {
	var l []string
	for _, s := range b.texts[max(0, len(b.texts)-40):] {
		if len(s) > 200 {
			l = append(l, fmt.Sprintf("%d bytes", len(s)))
		} else {
			l = append(l, strconv.Quote(s))
		}
	}
	return strings.Join(l, "; ")
}

// apply does a text, and asks that the replies, counts and digests are the same.
func (b *both) apply(t *testing.T, s string) api.Reply {
	t.Helper()
	b.texts = append(b.texts, s)
	r, want := b.m.Apply(s), b.p.apply(s)
	if !sameReply(r, want) {
		t.Fatalf("%s: %v; want %v", b.told(), r, want)
	}
	if b.m.Count() != b.p.count || b.m.Digest() != (api.Pair{Re: b.p.re, Im: b.p.im}) {
		t.Fatalf("%s: Count %d, Digest %v; want %d, %d, %d", b.told(), b.m.Count(), b.m.Digest(), b.p.count, b.p.re, b.p.im)
	}
	return r
}

// do does a command.
func (b *both) do(t *testing.T, c api.Command) api.Reply {
	t.Helper()
	b.names[c.Topic], b.names[c.Name] = true, true
	return b.apply(t, code(c))
}

// hold asks that all that can be asked of the machine is as the plain one has it.
func (b *both) hold(t *testing.T) {
	t.Helper()
	if !slices.Equal(b.m.Wanted(), b.p.wanted) {
		t.Fatalf("%s: Wanted %v; want %v", b.told(), b.m.Wanted(), b.p.wanted)
	}
	if l := slices.Sorted(maps.Keys(b.p.topics)); !slices.Equal(b.m.Topics(), l) {
		t.Fatalf("%s: Topics %v; want %v", b.told(), b.m.Topics(), l)
	}
	if b.m.Count() != b.p.count || b.m.Digest() != (api.Pair{Re: b.p.re, Im: b.p.im}) {
		t.Fatalf("%s: Count %d, Digest %v", b.told(), b.m.Count(), b.m.Digest())
	}
	for name := range b.names {
		b.holdTopic(t, name)
		s, ok := b.m.Sub(name)
		if want, there := b.p.subs[name]; s != want || ok != there {
			t.Fatalf("%s: Sub(%q): %v, %v; want %v, %v", b.told(), name, s, ok, want, there)
		}
	}
}

func (b *both) holdTopic(t *testing.T, name string) {
	t.Helper()
	x, ok := b.m.Topic(name)
	want, there := b.p.topics[name]
	if ok != there || ok != (x != nil) {
		t.Fatalf("%s: Topic(%q): %v; want %v", b.told(), name, ok, there)
	}
	if !there {
		return
	}
	l := x.Read(0, len(want.all)+1)
	if x.Name() != name || x.Low() != want.low || x.End() != len(want.all) || !slices.Equal(l, want.records) {
		t.Fatalf("%s: the topic %q: %q, %d to %d, %v; want %d to %d, %v", b.told(), name, x.Name(), x.Low(), x.End(), l, want.low, len(want.all), want.records)
	}
}

// want does a command, and asks for a code, a number and records, and for all else as the plain machine has it.
func (b *both) want(t *testing.T, c api.Command, code, n int, records ...api.Record) {
	t.Helper()
	if r := b.do(t, c); !sameReply(r, api.Reply{Code: code, N: n, Records: records}) {
		t.Errorf("%v: %v; want %d, %d, %v", c, r, code, n, records)
	}
	b.hold(t)
}

// no does a command, and asks for a code alone, and that nothing has changed.
func (b *both) no(t *testing.T, c api.Command, code int) {
	t.Helper()
	was := b.state()
	b.want(t, c, code, 0)
	if now := b.state(); now != was {
		t.Errorf("%v: %s; it was %s", c, now, was)
	}
}

// malformed does a text that is no command: RMalformed, and nothing has changed but the count and the digest.
func (b *both) malformed(t *testing.T, s string) {
	t.Helper()
	was, count, digest := b.state(), b.m.Count(), b.m.Digest()
	if r := b.apply(t, s); r.Code != api.RMalformed || r.N != 0 || len(r.Records) != 0 {
		t.Errorf("%q: %v", s, r)
	}
	if now := b.state(); now != was || b.m.Count() != count+1 || b.m.Digest() == digest {
		t.Errorf("%q: %s, %d, %v; it was %s, %d, %v", s, now, b.m.Count(), b.m.Digest(), was, count, digest)
	}
}

// state is all that is there of what can be asked of the machine, but its count and its digest.
func (b *both) state() string {
	s := fmt.Sprint(b.m.Wanted(), b.m.Topics())
	for _, name := range slices.Sorted(maps.Keys(b.names)) {
		if x, ok := b.m.Topic(name); ok {
			s += fmt.Sprintf(" %q %d %d %+v %q", x.Name(), x.Low(), x.End(), x.Read(0, 100000), x.Dump())
		}
		if sub, ok := b.m.Sub(name); ok {
			s += fmt.Sprintf(" %+v", sub)
		}
	}
	return s
}

// rec is the record of an offset that fill lays there.
func rec(offset int) api.Record {
	return api.Record{Offset: offset, Producer: "p", Seq: offset, Key: keyOf(offset), Value: word("v", offset)}
}

// keyOf is one of three, or none, so that a compact has some go.
func keyOf(offset int) string { return []string{"a", "b", "", "c"}[offset%4] }

// recs are the records from one offset up to another one.
func recs(from, end int) []api.Record {
	var l []api.Record
	for n := from; n < end; n++ {
		l = append(l, rec(n))
	}
	return l
}

// filled has a topic a with so many records.
func filled(t *testing.T, many int) *both {
	t.Helper()
	b := bothOf(t, 3)
	b.want(t, create("a"), api.ROK, 0)
	b.fill(t, "a", 0, many)
	b.hold(t)
	return b
}

func (b *both) fill(t *testing.T, topic string, from, end int) {
	t.Helper()
	for _, r := range recs(from, end) {
		if got := b.do(t, publish(topic, r.Producer, r.Seq, r.Key, r.Value)); got.Code != api.ROK || got.N != r.Offset {
			t.Fatalf("publish of %v: %v", r, got)
		}
	}
}

// walk tells numbers below a bound, one behind the other, without a random source.
func walk(seed uint32) func(below int) int {
	return func(below int) int {
		seed = seed*1664525 + 1013904223
		return int(seed>>8) % below
	}
}
