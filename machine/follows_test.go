package machine_test

import (
	"math"
	"slices"
	"sync"
	"testing"
	"unsafe"

	"carillon/api"
	"carillon/command"
	"carillon/gauss"
	"carillon/machine"
	"carillon/subs"
)

// eachScript does each script of up to so many commands, on a machine that is made anew each time.
func eachScript(t *testing.T, length int, begin func() *both, commands []api.Command) {
	t.Helper()
	for length := range length + 1 {
		many := 1
		for range length {
			many *= len(commands)
		}
		for script := range many {
			b := begin()
			for range length {
				b.do(t, commands[script%len(commands)])
				script /= len(commands)
			}
			b.hold(t)
		}
	}
}

// P17.1, P17.2: each script of up to four commands of all Kinds, from nothing on.
func TestEachShortScript(t *testing.T) {
	eachScript(t, 4, func() *both { return bothOf(t, 1) }, []api.Command{
		create("a"), create("b"), publish("a", "p", 1, "k", "v"), publish("a", "p", 2, "k", "w"), subscribe("a", "s", -1), subscribe("b", "s", 0),
		attach("s"), poll("s", 1), ack("s", 0), seek("s", 0), trim("a", 1), compact("a", 2), join(0), join(1), leave(0),
	})
}

// P17.1: each script of up to four commands of one subscription and its topic, on a topic that has records.
func TestEachShortScriptOfASubscription(t *testing.T) {
	begin := func() *both {
		b := bothOf(t, 2)
		b.do(t, create("a"))
		b.fill(t, "a", 0, 6)
		b.do(t, subscribe("a", "s", 1))
		return b
	}
	eachScript(t, 4, begin, []api.Command{
		publish("a", "p", 5, "a", "again"), publish("a", "p", 6, "a", "v"), attach("s"), poll("s", 1), poll("s", 50),
		ack("s", 1), ack("s", 4), seek("s", 0), seek("s", 6), trim("a", 3), trim("a", 6), compact("a", 6),
	})
}

// pick is one of a list; few, so that the same come again.
func pick[T any](next func(int) int, l ...T) T { return l[next(len(l))] }

func someTopic(next func(int) int) string {
	return pick(next, "a", "a", "a", "b", "b", "c", "s", size("z", 20), word("t", next(25)))
}

func someSub(next func(int) int) string {
	return pick(next, "s", "s", "s", "r", "r", "a", size("0", 20), word("u", next(60)))
}

// someMark is near to a mark of a topic or of a subscription of the plain machine.
func someMark(next func(int) int, b *both, topic, sub string) int {
	marks := []int{0, b.p.subs[sub].Cursor, b.p.subs[sub].Next}
	if x := b.p.topics[topic]; x != nil {
		marks = append(marks, x.low, len(x.all), (x.low+len(x.all))/2)
	}
	return max(pick(next, marks...)+next(5)-2, 0)
}

// someSeq is near to the last one of a producer that asks soon, most often.
func someSeq(next func(int) int, b *both, topic string) int {
	if next(40) == 0 {
		return pick(next, 0, great, great-1)
	}
	if x := b.p.topics[topic]; x != nil {
		return max(len(x.all)+next(7)-3, 0)
	}
	return next(3)
}

// ofTopics is a command that names a topic.
func ofTopics(next func(int) int, b *both) api.Command {
	topic, sub := someTopic(next), someSub(next)
	mark := someMark(next, b, topic, sub)
	switch next(10) {
	case 0, 1:
		return create(topic)
	case 2:
		return subscribe(topic, sub, pick(next, -1, 0, mark))
	case 3:
		return pick(next, trim, compact)(topic, mark)
	}
	return publish(topic, pick(next, "p", "p", "q", "0"), someSeq(next, b, topic), pick(next, "", "a", "b", "c"), size("v", next(9)))
}

// ofSubs is a command that names a subscription, or a node.
func ofSubs(next func(int) int, b *both) api.Command {
	sub := someSub(next)
	mark := someMark(next, b, b.p.subs[sub].Topic, sub)
	switch next(10) {
	case 0:
		return attach(sub)
	case 1, 2:
		return ack(sub, mark)
	case 3:
		return ack(sub, max(b.p.subs[sub].Next-1, 0))
	case 4:
		return seek(sub, mark)
	case 5:
		return pick(next, join, leave)(next(7))
	}
	return poll(sub, pick(next, 1, 2, 1+next(50), 50))
}

// someStep does one thing of all that can be done: sometimes no command.
func someStep(t *testing.T, next func(int) int, b *both) api.Reply {
	t.Helper()
	if next(40) == 0 {
		return b.apply(t, pick(next, "", "garbage", "\x00", size("x", next(300))))
	}
	c := pick(next, ofTopics, ofSubs)(next, b)
	c.Node, c.Ask = next(7), next(1000)
	if s := code(c); next(40) == 0 {
		return b.apply(t, s[:next(len(s))])
	}
	return b.do(t, c)
}

// crowd has nearly as many topics and subscriptions be there as may be.
func (b *both) crowd(t *testing.T) {
	t.Helper()
	for n := range 17 {
		b.do(t, create(word("t", n)))
	}
	for n := range 47 {
		b.do(t, subscribe(word("t", n%17), word("u", n), 0))
	}
}

// P17.1, P17.2: long scripts of several topics, producers and subscriptions, in any order, against plain ones; each code is answered to many.
func TestLongScripts(t *testing.T) {
	told := map[int]int{}
	for seed := range uint32(60) {
		next := walk(seed)
		b := bothOf(t, 1+next(7))
		if seed%3 == 0 {
			b.crowd(t)
		}
		for range 600 {
			r := someStep(t, next, b)
			told[r.Code]++
			if next(5) == 0 {
				b.hold(t)
			}
		}
		b.hold(t)
	}
	for _, code := range []int{api.ROK, api.RMalformed, api.RFull, api.RExists, api.RNone, api.ROld, api.RArg} {
		if told[code] < 100 {
			t.Errorf("only %d were answered with %d", told[code], code)
		}
	}
}

// P17.1: the digest is of each text wholly, and of their order: no two rows of things that differ have one.
func TestDigestsDiffer(t *testing.T) {
	things := []string{"", "a", "ab", "b", "garbage", code(create("a")), code(create("b")), code(join(1)), code(create("a")) + "x"}
	seen := map[api.Pair][2]string{}
	for _, first := range things {
		for _, second := range things {
			b := bothOf(t, 1)
			b.apply(t, first)
			b.apply(t, second)
			want, _ := gauss.On(gauss.Begin(), first)
			want, _ = gauss.On(want, second)
			if d := b.m.Digest(); d != want || b.m.Count() != 2 {
				t.Errorf("%q, %q: %v, %d; want %v", first, second, d, b.m.Count(), want)
			}
			if other, twice := seen[b.m.Digest()]; twice {
				t.Errorf("%q, %q have the digest of %q", first, second, other)
			}
			seen[b.m.Digest()] = [2]string{first, second}
		}
	}
}

// P17.3, P4: two machines that did the same answer the same, and have one Digest, whatever was asked of one of them between, and whatever others did.
func TestTwoThatDidTheSame(t *testing.T) {
	for seed := range uint32(20) {
		next := walk(5000 + seed)
		nodes := 1 + next(7)
		a, b, other := bothOf(t, nodes), bothOf(t, nodes), bothOf(t, nodes)
		for range 300 {
			n := len(a.texts)
			r := someStep(t, next, a)
			someStep(t, walk(uint32(n)), other)
			a.hold(t)
			c := a.texts[n]
			if got := b.apply(t, c); !sameReply(got, r) {
				t.Fatalf("%q: %v; the other one %v", c, got, r)
			}
			if a.m.Digest() != b.m.Digest() || a.m.Count() != b.m.Count() {
				t.Fatalf("%v, %d; %v, %d", a.m.Digest(), a.m.Count(), b.m.Digest(), b.m.Count())
			}
		}
		b.names = a.names
		b.hold(t)
		if a.state() != b.state() {
			t.Fatalf("%s; %s", a.state(), b.state())
		}
	}
}

// asked is what a publish says who it is by.
type asked struct {
	topic, producer string
	seq             int
}

// P17.3: a publish is answered ROK with one offset, however often it is done, and no other one of its topic gets that offset.
func TestAPublishHasOneOffset(t *testing.T) {
	again := 0
	for seed := range uint32(40) {
		next := walk(9000 + seed)
		b := bothOf(t, 3)
		got, whose := map[asked]int{}, map[asked]asked{}
		for range 500 {
			if next(3) == 0 {
				someStep(t, next, b)
				continue
			}
			a := asked{pick(next, "a", "b"), pick(next, "u", "v"), 0}
			a.seq = max(len(got)/4+next(7)-3, 0)
			r := b.do(t, publish(a.topic, a.producer, a.seq, pick(next, "", "k"), "v"))
			if r.Code != api.ROK {
				continue
			}
			offset, told := got[a]
			if told && offset != r.N {
				t.Fatalf("%v: %d; it got %d", a, r.N, offset)
			}
			at := asked{topic: a.topic, seq: r.N}
			if by, ok := whose[at]; ok && by != a {
				t.Fatalf("%v and %v: %d", a, by, r.N)
			}
			if told {
				again++
			}
			got[a], whose[at] = r.N, a
		}
	}
	if again < 500 {
		t.Errorf("only %d again", again)
	}
}

// P17.2: what is done with a Topic that was told is done with the machine's, and what the machine does is done with it.
func TestTopicIsTheMachines(t *testing.T) {
	b := filled(t, 3)
	x, _ := b.m.Topic("a")
	b.fill(t, "a", 3, 5)
	if x.End() != 5 {
		t.Errorf("End %d", x.End())
	}
	count, digest := b.m.Count(), b.m.Digest()
	if offset, code := x.Publish("q", 4, "k", "v"); offset != 5 || code != api.ROK {
		t.Fatalf("Publish: %d, %d", offset, code)
	}
	if code := x.Trim(2); code != api.ROK {
		t.Fatalf("Trim: %d", code)
	}
	if b.m.Count() != count || b.m.Digest() != digest {
		t.Errorf("Count %d, Digest %v; it was %d, %v", b.m.Count(), b.m.Digest(), count, digest)
	}
	y, ok := b.m.Topic("a")
	if y != x || !ok || y.Low() != 2 || y.End() != 6 {
		t.Errorf("%v, %d to %d", ok, y.Low(), y.End())
	}
	for _, w := range []struct {
		c api.Command
		r api.Reply
	}{
		{publish("a", "q", 4, "k", "v"), api.Reply{N: 5}},
		{publish("a", "q", 3, "k", "v"), api.Reply{Code: api.ROld}},
		{subscribe("a", "s", -1), api.Reply{N: 6}},
		{seek("s", 0), api.Reply{}},
		{poll("s", 50), api.Reply{N: 6, Records: append(recs(2, 5), api.Record{Offset: 5, Producer: "q", Seq: 4, Key: "k", Value: "v"})}},
		{trim("a", 1), api.Reply{N: 2}},
		{compact("a", 0), api.Reply{N: 2}},
	} {
		if r := b.m.Apply(code(w.c)); !sameReply(r, w.r) {
			t.Errorf("%v: %v; want %v", w.c, r, w.r)
		}
	}
}

// lent tells a text over bytes that may be written into later.
func lent(s string) (string, []byte) {
	b := []byte(s)
	return unsafe.String(unsafe.SliceData(b), len(b)), b
}

// fillWith writes over bytes.
func fillWith(b []byte, x byte) {
	for i := range b {
		b[i] = x
	}
}

// P3: nothing that is handed in is written into or kept: what was done stays, whatever comes of its text then.
func TestNothingHandedInIsKept(t *testing.T) {
	b := filled(t, 3)
	b.do(t, subscribe("a", "s", 0))
	b.do(t, poll("s", 1))
	for _, c := range append(ofEachKind(), publish("b", "r", 1, "k", "v"), poll("r", 1), publish("b", "r", 1, "k", "v"), create("b"), trim("b", 1), api.Command{}) {
		b.names[c.Topic], b.names[c.Name] = true, true
		s, room := lent(code(c))
		r, want := b.m.Apply(s), b.p.apply(code(c))
		if string(room) != code(c) {
			t.Errorf("%v: written into", c)
		}
		fillWith(room, 'a')
		if !sameReply(r, want) {
			t.Errorf("%v: %v; want %v", c, r, want)
		}
		b.hold(t)
	}
	name, room := lent("s")
	x, ok := b.m.Sub(name)
	fillWith(room, 'r')
	if want := (subs.Sub{Name: "s", Topic: "a", Cursor: 2, Next: 2}); x != want || !ok {
		t.Errorf("Sub: %v, %v; want %v", x, ok, want)
	}
	b.hold(t)
}

// spoilText writes over the bytes of a text that was told, as if they were its holder's own.
func spoilText(s string) {
	fillWith(unsafe.Slice(unsafe.StringData(s), len(s)), '!')
}

// spoil writes over a list of records, its spare room too, and over the bytes of its texts.
func spoil(l []api.Record) {
	l = l[:cap(l)]
	for i := range l {
		for _, s := range []string{l[i].Producer, l[i].Key, l[i].Value} {
			spoilText(s)
		}
		l[i] = api.Record{Offset: -1}
	}
}

// P3: what is told is new memory: no part of the machine, nor of what is told another time, spare room and texts too.
func TestAnswersAreNewMemory(t *testing.T) {
	b := filled(t, 9)
	b.want(t, create("b"), api.ROK, 0)
	b.want(t, subscribe("a", "s", 2), api.ROK, 2)
	was := b.state()
	wanted, wanted2 := b.m.Wanted(), b.m.Wanted()
	topics, topics2 := b.m.Topics(), b.m.Topics()
	sub, _ := b.m.Sub("s")
	sub2, _ := b.m.Sub("s")
	for i := range wanted[:cap(wanted)] {
		wanted[:cap(wanted)][i] = -1
	}
	for i, s := range topics[:cap(topics)] {
		spoilText(s)
		topics[:cap(topics)][i] = "!"
	}
	spoilText(sub.Name)
	spoilText(sub.Topic)
	if !slices.Equal(wanted2, []int{0, 1, 2}) || !slices.Equal(topics2, []string{"a", "b"}) || sub2 != (subs.Sub{Name: "s", Topic: "a", Cursor: 2, Next: 2}) {
		t.Errorf("%v, %v, %v", wanted2, topics2, sub2)
	}
	if now := b.state(); now != was {
		t.Errorf("%s; it was %s", now, was)
	}
	b.hold(t)
	b.want(t, poll("s", 1), api.ROK, 3, recs(2, 3)...)
}

// P3: the records of a poll are the holder's own, and stay what they were, whatever the machine does then.
func TestRecordsAreNewMemory(t *testing.T) {
	b := filled(t, 9)
	b.want(t, subscribe("a", "s", 0), api.ROK, 0)
	first := b.do(t, poll("s", 4)).Records
	b.want(t, attach("s"), api.ROK, 0)
	second := b.do(t, poll("s", 6)).Records
	spoil(first)
	if !slices.Equal(second, recs(0, 6)) {
		t.Errorf("%v", second)
	}
	b.want(t, compact("a", 9), api.ROK, 0)
	b.want(t, trim("a", 5), api.ROK, 5)
	b.want(t, publish("a", "p", 9, "a", "w"), api.ROK, 9)
	if !slices.Equal(second, recs(0, 6)) {
		t.Errorf("%v", second)
	}
	b.want(t, seek("s", 0), api.ROK, 0)
	b.do(t, poll("s", 50))
	spoil(second)
	b.hold(t)
}

// P2, P5: beside another code than ROK there is no number and are no records, and beside false nothing; whatever is asked, nothing has changed.
func TestNothingBesideANo(t *testing.T) {
	b := filled(t, 9)
	b.want(t, subscribe("a", "s", 3), api.ROK, 3)
	b.want(t, poll("s", 2), api.ROK, 5, recs(3, 5)...)
	b.want(t, trim("a", 2), api.ROK, 2)
	b.want(t, leave(0), api.ROK, 2)
	b.want(t, leave(1), api.ROK, 1)
	for _, w := range []struct {
		c    api.Command
		code int
	}{
		{create("a"), api.RExists}, {publish("b", "p", 9, "", ""), api.RNone}, {publish("a", "p", 7, "", ""), api.ROld},
		{subscribe("b", "r", 0), api.RNone}, {subscribe("a", "s", 0), api.RExists}, {subscribe("a", "r", 10), api.RArg},
		{attach("r"), api.RNone}, {poll("r", 9), api.RNone}, {ack("r", 0), api.RNone}, {ack("s", 5), api.RArg},
		{seek("r", 0), api.RNone}, {seek("s", 10), api.RArg}, {trim("b", 0), api.RNone}, {trim("a", 10), api.RArg},
		{compact("b", 0), api.RNone}, {leave(2), api.RArg},
	} {
		b.no(t, w.c, w.code)
	}
	b.malformed(t, "")
	b.want(t, poll("s", 9), api.ROK, 9, recs(5, 9)...)
	if m, e := machine.New(0); m != nil || e != api.ErrArg {
		t.Errorf("New(0): %v, %d", m, e)
	}
}

// P4: each machine is its own, also those that are worked beside each other.
func TestManyBesideEachOther(t *testing.T) {
	var workers sync.WaitGroup
	digests := make([]api.Pair, 8)
	for i := range digests {
		workers.Go(func() {
			m, e := machine.New(3)
			if e != api.OK {
				t.Errorf("New: %d", e)
				return
			}
			m.Apply(code(create("a")))
			m.Apply(code(subscribe("a", "s", 0)))
			for n := range 300 {
				r := m.Apply(code(publish("a", "p", n, "", "")))
				polled := m.Apply(code(poll("s", 1)))
				acked := m.Apply(code(ack("s", n)))
				if !sameReply(r, api.Reply{N: n}) || len(polled.Records) != 1 || polled.N != n+1 || !sameReply(acked, api.Reply{N: n + 1}) {
					t.Errorf("%d: %v, %v, %v", n, r, polled, acked)
					return
				}
			}
			digests[i] = m.Digest()
		})
	}
	workers.Wait()
	if len(slices.Compact(digests)) != 1 {
		t.Errorf("%v", digests)
	}
}

// P1: texts and names of very many bytes, very many things, numbers of all kinds; each call ends soon.
func TestVeryMany(t *testing.T) {
	for _, n := range []int{math.MinInt, math.MaxInt, math.MinInt32, math.MaxInt32, 1 << 8, 1 << 16} {
		if m, e := machine.New(n); m != nil || e != api.ErrArg {
			t.Errorf("New(%d): %v, %d", n, m, e)
		}
	}
	m, _ := machine.New(1)
	long := size("a", 1<<24)
	want, _ := gauss.On(gauss.Begin(), long)
	if r := m.Apply(long); r.Code != api.RMalformed || m.Digest() != want {
		t.Errorf("%v, %v", r, m.Digest())
	}
	if x, ok := m.Topic(long); x != nil || ok {
		t.Error("a topic of very many bytes")
	}
	if s, ok := m.Sub(long); ok || s != (subs.Sub{}) {
		t.Error("a subscription of very many bytes")
	}
	m.Apply(code(create("a")))
	m.Apply(code(subscribe("a", "s", 0)))
	for n := range 50000 {
		m.Apply(code(publish("a", "p", n, "", "")))
		r := m.Apply(code(poll("s", 50)))
		if got := m.Apply(code(ack("s", n))); len(r.Records) != 1 || r.N != n+1 || got.N != n+1 {
			t.Fatalf("%d: %v, %v", n, r, got)
		}
	}
	if m.Count() != 150003 {
		t.Errorf("Count %d", m.Count())
	}
}

// P1, P17.1, P17.2: texts of all kinds, with commands of each Kind between, against a plain machine.
func FuzzTexts(f *testing.F) {
	for _, c := range ofEachKind() {
		f.Add(code(c), code(create("a")))
	}
	for _, c := range wrongCommands() {
		f.Add(code(c), "")
	}
	f.Fuzz(func(t *testing.T, first, second string) {
		b := filled(t, 3)
		b.do(t, subscribe("a", "s", 0))
		for _, s := range []string{first, second, first} {
			if c, e := command.Decode(s); e == api.OK {
				b.names[c.Topic], b.names[c.Name] = true, true
			}
			b.apply(t, s)
			b.do(t, poll("s", 1))
			b.hold(t)
		}
		for _, c := range ofEachKind() {
			b.do(t, c)
		}
		b.hold(t)
	})
}

// P1, P17.1 to P17.3: scripts of all kinds, against plain machines.
func FuzzScript(f *testing.F) {
	f.Add(3, uint32(1), 100)
	f.Add(7, uint32(2), 600)
	f.Add(1, uint32(3), 600)
	f.Add(0, uint32(4), 1)
	f.Add(8, uint32(5), 1)
	f.Fuzz(func(t *testing.T, nodes int, seed uint32, many int) {
		if nodes < 1 || nodes > 7 {
			if m, e := machine.New(nodes); m != nil || e != api.ErrArg {
				t.Errorf("New(%d): %v, %d", nodes, m, e)
			}
			return
		}
		b := bothOf(t, nodes)
		next := walk(seed)
		for range min(max(many, 0), 600) {
			someStep(t, next, b)
		}
		b.hold(t)
	})
}
