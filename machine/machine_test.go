package machine_test

import (
	"math"
	"slices"
	"testing"

	"carillon/api"
	"carillon/command"
	"carillon/machine"
	"carillon/subs"
)

// The chapter's examples, line by line.
func TestExamples(t *testing.T) {
	b := bothOf(t, 3)
	b.want(t, create("a"), api.ROK, 0)
	b.no(t, create("a"), api.RExists)
	b.want(t, publish("a", "p", 1, "k", "v"), api.ROK, 0)
	b.want(t, subscribe("a", "s", 0), api.ROK, 0)
	b.want(t, poll("s", 5), api.ROK, 1, api.Record{Producer: "p", Seq: 1, Key: "k", Value: "v"})
	b.want(t, ack("s", 0), api.ROK, 1)
	b.malformed(t, "garbage")
	if b.m.Count() != 7 {
		t.Errorf("Count %d", b.m.Count())
	}
}

// P17.1: a machine of each number of nodes that may be has done nothing, and wants the first ones.
func TestNew(t *testing.T) {
	for nodes := 1; nodes <= api.MaxNodes; nodes++ {
		b := bothOf(t, nodes)
		b.hold(t)
		if l := b.m.Wanted(); len(l) != nodes || l[0] != 0 || l[nodes-1] != nodes-1 {
			t.Errorf("New(%d): Wanted %v", nodes, l)
		}
		if b.m.Count() != 0 || b.m.Digest() != (api.Pair{Re: 1}) || len(b.m.Topics()) != 0 {
			t.Errorf("New(%d): %d, %v, %v", nodes, b.m.Count(), b.m.Digest(), b.m.Topics())
		}
	}
}

// P17.1: numbers of nodes that may not be.
func TestNewOfAWrongNumber(t *testing.T) {
	for _, nodes := range []int{0, -1, -2, -7, math.MinInt, api.MaxNodes + 1, api.MaxNodes + 2, 256 + 3, 1<<32 + 3, math.MaxInt} {
		if m, e := machine.New(nodes); m != nil || e != api.ErrArg {
			t.Errorf("New(%d): %v, %d", nodes, m, e)
		}
	}
}

// P17.1, P17.2: the Digest of texts whose digests chapter 3 tells.
func TestDigestOfKnownTexts(t *testing.T) {
	for s, want := range map[string]api.Pair{"": {Re: 259, Im: 3}, "a": {Re: 609, Im: 786}} {
		b := bothOf(t, 1)
		b.malformed(t, s)
		if b.m.Digest() != want {
			t.Errorf("%q: %v; want %v", s, b.m.Digest(), want)
		}
	}
}

// P17.1, P17.2: Count is one more, and the Digest goes on, behind each thing, whatever is answered; what is asked between counts as nothing.
func TestEachThingCounts(t *testing.T) {
	b := filled(t, 3)
	b.want(t, subscribe("a", "s", 0), api.ROK, 0)
	seen := map[int]bool{}
	for range 3 {
		for _, s := range []string{
			code(create("a")), code(create(word("t", b.m.Count()))), code(publish("a", "p", 0, "", "")), code(publish("a", "p", 2, "", "")),
			code(publish("a", "p", b.m.Count(), "", "")), code(poll("s", 1)), code(attach("s")), code(ack("s", 99)), code(seek("none", 0)),
			code(trim("a", 999)), code(compact("a", 9)), code(join(1)), code(leave(6)), code(leave(2)), "", "garbage", code(create("A")),
		} {
			count, digest := b.m.Count(), b.m.Digest()
			seen[b.apply(t, s).Code] = true
			if b.m.Count() != count+1 || b.m.Digest() == digest {
				t.Errorf("%q: Count %d, Digest %v; it was %d, %v", s, b.m.Count(), b.m.Digest(), count, digest)
			}
			count, digest = b.m.Count(), b.m.Digest()
			b.hold(t)
			if b.m.Count() != count || b.m.Digest() != digest {
				t.Errorf("asking: Count %d, Digest %v; it was %d, %v", b.m.Count(), b.m.Digest(), count, digest)
			}
		}
	}
	for _, code := range []int{api.ROK, api.RMalformed, api.RExists, api.RNone, api.ROld, api.RArg} {
		if !seen[code] {
			t.Errorf("nothing was answered with %d", code)
		}
	}
}

// ofEachKind are commands of each Kind that filled's machine, with a subscription s, does.
func ofEachKind() []api.Command {
	return []api.Command{
		create("b"), publish("a", "q", 7, "key", "value"), subscribe("a", "r", 1), attach("s"), poll("s", 2),
		ack("s", 0), seek("s", 2), trim("a", 1), compact("a", 3), join(5), leave(1),
	}
}

// P17.1: of each Kind, a command that is torn, wherever, and one with bytes behind.
func TestTornAndWithBytesBehind(t *testing.T) {
	b := filled(t, 3)
	b.want(t, subscribe("a", "s", 0), api.ROK, 0)
	b.want(t, poll("s", 1), api.ROK, 1, recs(0, 1)...)
	for _, c := range ofEachKind() {
		s := code(c)
		for n := range len(s) {
			b.malformed(t, s[:n])
		}
		for _, behind := range []string{"\x00", "x", s, "\x00\x00\x00\x00"} {
			b.malformed(t, s+behind)
			b.malformed(t, behind+s)
		}
		frame, e := command.Request(c)
		if e != api.OK {
			t.Fatalf("%v: %d", c, e)
		}
		b.malformed(t, frame)
	}
	for _, c := range ofEachKind() {
		if r := b.do(t, c); r.Code != api.ROK {
			t.Errorf("%v: %v", c, r)
		}
	}
	b.hold(t)
}

// wrongCommands are codes of commands that are not right: each would be done but for what is wrong in it.
func wrongCommands() []api.Command {
	l := []api.Command{
		{}, {Kind: 12, Topic: "b"}, {Kind: 255, Topic: "b"}, create(""), create("B"), create("b "), create(size("b", 21)),
		publish("a", "", 9, "", ""), publish("a", "P", 9, "", ""), publish("A", "p", 9, "", ""), publish("a", "p", great+1, "", ""),
		publish("a", "p", -1, "", ""), publish("a", "p", 9, size("k", 101), ""), publish("a", "p", 9, "", size("v", 1001)),
		subscribe("a", "r", -2), subscribe("a", "r", great+1), subscribe("a", "R", 0), subscribe("a", "", 0), subscribe("", "r", 0),
		attach(""), attach("S"), attach(size("s", 21)), poll("s", 0), poll("s", -1), poll("s", 51), poll("", 1),
		ack("s", -1), ack("s", great+1), ack("", 0), seek("s", -1), seek("s", great+1), seek("", 0),
		trim("a", -1), trim("a", great+1), trim("", 1), compact("a", -1), compact("a", great+1), compact("", 1),
		join(-1), join(7), join(great), leave(-1), leave(7), leave(math.MaxInt),
	}
	for _, c := range ofEachKind() {
		node, ask, far := c, c, c
		node.Node, ask.Ask, far.Ask = 7, great+1, -1
		l = append(l, node, ask, far)
	}
	for _, kind := range []int{api.CCreate, api.CAttach, api.CJoin, api.CTrim} {
		l = append(l, api.Command{Kind: kind, Topic: "b", Name: "s", N: 1}, api.Command{Kind: kind, Topic: "b", Name: "s", Seq: 1, Key: "k", Value: "v", N: 1})
	}
	return l
}

// P17.1: codes of commands that are not right.
func TestCommandsThatAreNotRight(t *testing.T) {
	b := filled(t, 3)
	b.want(t, subscribe("a", "s", 0), api.ROK, 0)
	b.want(t, poll("s", 1), api.ROK, 1, recs(0, 1)...)
	for _, c := range wrongCommands() {
		b.malformed(t, code(c))
	}
	b.hold(t)
}

// P17.1: texts of all kinds that are no commands.
func TestTextsThatAreNoCommands(t *testing.T) {
	b := filled(t, 3)
	for _, s := range []string{"", "\x00", "garbage", "a", "\xff\xfe", "create a", size("\x00", 40), size("\x01", 40), size("\xff", 200), size("x", 1<<20)} {
		b.malformed(t, s)
	}
	for n := range 256 {
		b.malformed(t, string([]byte{byte(n)}))
	}
	b.hold(t)
}

// P17.1: where a command was asked, and the number of its asking, are for others: the reply is the same.
func TestNodeAndAskChangeNoReply(t *testing.T) {
	for _, from := range []api.Command{{Node: 6}, {Ask: great}, {Node: 3, Ask: 77}} {
		a, b := filled(t, 3), filled(t, 3)
		a.want(t, subscribe("a", "s", 0), api.ROK, 0)
		b.want(t, subscribe("a", "s", 0), api.ROK, 0)
		for _, c := range ofEachKind() {
			r := a.do(t, c)
			c.Node, c.Ask = from.Node, from.Ask
			if got := b.do(t, c); !sameReply(got, r) {
				t.Errorf("%v: %v; want %v", c, got, r)
			}
		}
		b.hold(t)
		if a.state() != b.state() || a.m.Digest() == b.m.Digest() {
			t.Errorf("%v: %s; %s", from, a.state(), b.state())
		}
	}
}

// P17.1, P17.2: CCreate of words, short and long; each is there once.
func TestCreate(t *testing.T) {
	b := bothOf(t, 1)
	for _, name := range []string{"a", "z", "0", "9", "ab", "b", "aa", size("z", 20), size("0", 20)} {
		b.want(t, create(name), api.ROK, 0)
		b.no(t, create(name), api.RExists)
		x, ok := b.m.Topic(name)
		if !ok || x.Name() != name || x.Low() != 0 || x.End() != 0 {
			t.Errorf("Topic(%q): %v", name, ok)
		}
	}
	b.want(t, publish("a", "p", 1, "", "v"), api.ROK, 0)
	b.no(t, create("a"), api.RExists)
}

// P17.1: MaxTopics topics, and one more; of one that is there RExists is told ahead of RFull.
func TestTopicsAreFull(t *testing.T) {
	b := bothOf(t, 2)
	for n := range 20 {
		b.want(t, create(word("t", n)), api.ROK, 0)
	}
	for _, name := range []string{"t20", "a", "z", "t"} {
		b.no(t, create(name), api.RFull)
		if x, ok := b.m.Topic(name); x != nil || ok {
			t.Errorf("Topic(%q): %v", name, ok)
		}
	}
	for n := range 20 {
		b.no(t, create(word("t", n)), api.RExists)
	}
	b.want(t, publish("t19", "p", 0, "", "v"), api.ROK, 0)
	b.want(t, trim("t19", 1), api.ROK, 1)
	b.no(t, create("a"), api.RFull)
	b.no(t, publish("a", "p", 0, "", "v"), api.RNone)
	if len(b.m.Topics()) != 20 {
		t.Errorf("Topics %v", b.m.Topics())
	}
}

// P17.1: each topic has its own offsets, and its own producers.
func TestPublish(t *testing.T) {
	b := bothOf(t, 1)
	b.no(t, publish("a", "p", 0, "", ""), api.RNone)
	b.want(t, create("a"), api.ROK, 0)
	b.want(t, create("b"), api.ROK, 0)
	b.no(t, publish("c", "p", 0, "", ""), api.RNone)
	b.want(t, publish("a", "p", 0, "", ""), api.ROK, 0)
	b.want(t, publish("a", "p", great, size("k", 100), size("v", 1000)), api.ROK, 1)
	b.want(t, publish("a", "q", 3, "k", "v"), api.ROK, 2)
	b.want(t, publish("b", "p", 3, "k", "v"), api.ROK, 0)
	b.want(t, publish("b", "p", 4, "k", "v"), api.ROK, 1)
	b.want(t, publish("a", size("p", 20), 0, "", "v"), api.ROK, 3)
	b.want(t, publish("a", "a", 0, "", "v"), api.ROK, 4)
}

// P17.1, P17.3: a publish that is done again gets its offset, whatever it brings, and behind others of its producer ROld.
func TestPublishAgain(t *testing.T) {
	b := bothOf(t, 1)
	b.want(t, create("a"), api.ROK, 0)
	b.want(t, publish("a", "p", 5, "k", "v"), api.ROK, 0)
	b.want(t, publish("a", "q", 5, "k", "v"), api.ROK, 1)
	for range 3 {
		b.want(t, publish("a", "p", 5, "k", "v"), api.ROK, 0)
		b.want(t, publish("a", "q", 5, "k", "v"), api.ROK, 1)
		b.want(t, publish("a", "p", 5, "other", "w"), api.ROK, 0)
		b.no(t, publish("a", "p", 4, "k", "v"), api.ROld)
		b.no(t, publish("a", "p", 0, "k", "v"), api.ROld)
	}
	b.want(t, publish("a", "p", 6, "k", "v"), api.ROK, 2)
	b.no(t, publish("a", "p", 5, "k", "v"), api.ROld)
	b.want(t, publish("a", "p", 6, "k", "v"), api.ROK, 2)
	b.want(t, publish("a", "q", 5, "k", "v"), api.ROK, 1)
	b.want(t, compact("a", 3), api.ROK, 0)
	b.want(t, trim("a", 3), api.ROK, 3)
	b.want(t, publish("a", "p", 6, "k", "v"), api.ROK, 2)
	b.want(t, publish("a", "q", 5, "k", "v"), api.ROK, 1)
	b.want(t, publish("a", "q", 6, "k", "v"), api.ROK, 3)
}

// P17.1: CSubscribe from 0, from within, from the End, and from the End by a number below 0.
func TestSubscribe(t *testing.T) {
	for _, end := range []int{0, 1, 4} {
		b := filled(t, end)
		for first := range end + 1 {
			b.want(t, subscribe("a", word("s", first), first), api.ROK, first)
		}
		b.want(t, subscribe("a", "end", -1), api.ROK, end)
		for _, first := range []int{end + 1, end + 2, great} {
			b.no(t, subscribe("a", "s", first), api.RArg)
		}
		if s, ok := b.m.Sub("s"); ok || s != (subs.Sub{}) {
			t.Errorf("Sub: %v, %v", s, ok)
		}
		b.want(t, subscribe("a", "s", 0), api.ROK, 0)
		b.fill(t, "a", end, end+2)
		b.want(t, poll("end", 9), api.ROK, end+2, recs(end, end+2)...)
		b.want(t, subscribe("a", "later", -1), api.ROK, end+2)
	}
}

// P17.1: from below the low mark.
func TestSubscribeBelowTheLowMark(t *testing.T) {
	b := filled(t, 5)
	b.want(t, trim("a", 3), api.ROK, 3)
	b.want(t, subscribe("a", "s", 0), api.ROK, 0)
	b.want(t, poll("s", 1), api.ROK, 4, recs(3, 4)...)
	b.want(t, subscribe("a", "r", 2), api.ROK, 2)
	b.want(t, subscribe("a", "q", -1), api.ROK, 5)
}

// P17.1: a subscription's name is there once, whatever its topic is; topics' names are others.
func TestNamesThatAreThere(t *testing.T) {
	b := filled(t, 3)
	b.want(t, create("b"), api.ROK, 0)
	b.want(t, subscribe("a", "s", 1), api.ROK, 1)
	for _, first := range []int{-1, 0, 1, 3, 4, great} {
		b.no(t, subscribe("a", "s", first), api.RExists)
		b.no(t, subscribe("b", "s", first), api.RExists)
		b.no(t, subscribe("c", "s", first), api.RNone)
		b.no(t, subscribe("s", "s", first), api.RNone)
		b.no(t, subscribe("c", "r", first), api.RNone)
	}
	b.want(t, create("s"), api.ROK, 0)
	b.no(t, subscribe("s", "s", 0), api.RExists)
	b.want(t, subscribe("b", "a", 0), api.ROK, 0)
	b.want(t, subscribe("a", "b", 2), api.ROK, 2)
	b.want(t, poll("a", 5), api.ROK, 0)
	b.want(t, poll("b", 5), api.ROK, 3, recs(2, 3)...)
	b.want(t, poll("s", 5), api.ROK, 3, recs(1, 3)...)
}

// P17.1: MaxSubs subscriptions, and one more, of whatever topics: RNone is told first, then RExists, then RFull, then RArg.
func TestSubscriptionsAreFull(t *testing.T) {
	b := filled(t, 2)
	b.want(t, create("b"), api.ROK, 0)
	for n := range 50 {
		b.want(t, subscribe([]string{"a", "b"}[n%2], word("s", n), -1), api.ROK, []int{2, 0}[n%2])
	}
	for _, of := range []string{"a", "b"} {
		for _, first := range []int{-1, 0, 99} {
			b.no(t, subscribe(of, "s50", first), api.RFull)
			b.no(t, subscribe(of, "s", first), api.RFull)
			b.no(t, subscribe(of, "s0", first), api.RExists)
			b.no(t, subscribe(of, "s49", first), api.RExists)
			b.no(t, subscribe("c", "s50", first), api.RNone)
			b.no(t, subscribe("c", "s0", first), api.RNone)
		}
	}
	b.want(t, seek("s0", 0), api.ROK, 0)
	b.want(t, poll("s0", 1), api.ROK, 1, recs(0, 1)...)
	b.no(t, subscribe("a", "s50", 0), api.RFull)
	b.no(t, attach("s50"), api.RNone)
	b.want(t, create("c"), api.ROK, 0)
	b.no(t, subscribe("c", "s50", 0), api.RFull)
}

// P17.1: all that asks for a subscription, of names that are none, a topic's too.
func TestSubscriptionsThatAreNotThere(t *testing.T) {
	for _, b := range []*both{bothOf(t, 1), filled(t, 3)} {
		for _, name := range []string{"s", "a", "p", size("s", 20)} {
			b.no(t, attach(name), api.RNone)
			b.no(t, poll(name, 1), api.RNone)
			b.no(t, poll(name, 50), api.RNone)
			for _, n := range []int{0, 1, great} {
				b.no(t, ack(name, n), api.RNone)
				b.no(t, seek(name, n), api.RNone)
			}
		}
	}
}

// P17.1: all that asks for a topic, of names that are none, a subscription's too.
func TestTopicsThatAreNotThere(t *testing.T) {
	b := filled(t, 3)
	b.want(t, subscribe("a", "s", 0), api.ROK, 0)
	for _, name := range []string{"s", "b", "aa", "p", size("a", 20)} {
		b.no(t, publish(name, "p", 9, "", ""), api.RNone)
		b.no(t, subscribe(name, "r", 0), api.RNone)
		for _, n := range []int{0, 1, 3, great} {
			b.no(t, trim(name, n), api.RNone)
			b.no(t, compact(name, n), api.RNone)
		}
	}
}

// P17.1: CPoll of 1, of MaxPoll, and of more than there are; N is the Next, also where no records are told.
func TestPoll(t *testing.T) {
	b := filled(t, 60)
	b.want(t, subscribe("a", "s", 0), api.ROK, 0)
	b.want(t, poll("s", 1), api.ROK, 1, recs(0, 1)...)
	b.want(t, poll("s", 2), api.ROK, 3, recs(1, 3)...)
	b.want(t, poll("s", 50), api.ROK, 53, recs(3, 53)...)
	b.want(t, poll("s", 50), api.ROK, 60, recs(53, 60)...)
	b.want(t, poll("s", 1), api.ROK, 60)
	b.want(t, poll("s", 50), api.ROK, 60)
	b.fill(t, "a", 60, 61)
	b.want(t, poll("s", 50), api.ROK, 61, recs(60, 61)...)
	b.want(t, subscribe("a", "r", 58), api.ROK, 58)
	b.want(t, poll("r", 2), api.ROK, 60, recs(58, 60)...)
	b.want(t, poll("s", 2), api.ROK, 61)
}

// P17.1: without an ack MaxCredit records are told, and each ack lets more be told.
func TestPollByTheCredit(t *testing.T) {
	b := filled(t, 130)
	b.want(t, subscribe("a", "s", 0), api.ROK, 0)
	b.want(t, poll("s", 50), api.ROK, 50, recs(0, 50)...)
	b.want(t, poll("s", 50), api.ROK, 100, recs(50, 100)...)
	b.want(t, poll("s", 50), api.ROK, 100)
	b.want(t, ack("s", 9), api.ROK, 10)
	b.want(t, poll("s", 50), api.ROK, 110, recs(100, 110)...)
	b.want(t, trim("a", 15), api.ROK, 15)
	b.want(t, poll("s", 50), api.ROK, 115, recs(110, 115)...)
	b.want(t, attach("s"), api.ROK, 10)
	b.want(t, poll("s", 1), api.ROK, 16, recs(15, 16)...)
}

// P17.1: CAttach tells the Cursor, and what was not acknowledged is told again.
func TestAttach(t *testing.T) {
	b := filled(t, 6)
	b.want(t, subscribe("a", "s", 1), api.ROK, 1)
	b.want(t, attach("s"), api.ROK, 1)
	b.want(t, poll("s", 3), api.ROK, 4, recs(1, 4)...)
	b.want(t, attach("s"), api.ROK, 1)
	b.want(t, attach("s"), api.ROK, 1)
	b.want(t, poll("s", 3), api.ROK, 4, recs(1, 4)...)
	b.want(t, ack("s", 2), api.ROK, 3)
	b.want(t, attach("s"), api.ROK, 3)
	b.want(t, poll("s", 50), api.ROK, 6, recs(3, 6)...)
	if s, ok := b.m.Sub("s"); !ok || s != (subs.Sub{Name: "s", Topic: "a", Cursor: 3, Next: 6}) {
		t.Errorf("Sub: %v, %v", s, ok)
	}
}

// P17.1: CAck tells the Cursor, which does not go back; what was not told cannot be acknowledged.
func TestAck(t *testing.T) {
	b := filled(t, 6)
	b.want(t, subscribe("a", "s", 0), api.ROK, 0)
	b.no(t, ack("s", 0), api.RArg)
	b.want(t, poll("s", 4), api.ROK, 4, recs(0, 4)...)
	for _, n := range []int{4, 5, 6, great} {
		b.no(t, ack("s", n), api.RArg)
	}
	b.want(t, ack("s", 1), api.ROK, 2)
	b.want(t, ack("s", 1), api.ROK, 2)
	b.want(t, ack("s", 0), api.ROK, 2)
	b.want(t, ack("s", 3), api.ROK, 4)
	b.want(t, ack("s", 0), api.ROK, 4)
	b.no(t, ack("s", 4), api.RArg)
}

// P17.1: CSeek goes to 0, to the End, and back; not beyond the End.
func TestSeek(t *testing.T) {
	b := filled(t, 6)
	b.want(t, subscribe("a", "s", 2), api.ROK, 2)
	for _, n := range []int{0, 1, 6, 3, 0} {
		b.want(t, seek("s", n), api.ROK, n)
		b.want(t, poll("s", 1), api.ROK, min(n+1, 6), recs(n, min(n+1, 6))...)
		b.no(t, seek("s", 7), api.RArg)
		b.no(t, seek("s", great), api.RArg)
	}
	b.want(t, create("b"), api.ROK, 0)
	b.want(t, subscribe("b", "r", 0), api.ROK, 0)
	b.no(t, seek("r", 1), api.RArg)
	b.want(t, seek("r", 0), api.ROK, 0)
}

// P17.1: CTrim tells the low mark: below it, at it, above it, at the End; not beyond.
func TestTrim(t *testing.T) {
	b := filled(t, 5)
	b.want(t, trim("a", 0), api.ROK, 0)
	b.no(t, trim("a", 6), api.RArg)
	b.no(t, trim("a", great), api.RArg)
	b.want(t, trim("a", 2), api.ROK, 2)
	b.want(t, trim("a", 2), api.ROK, 2)
	b.want(t, trim("a", 1), api.ROK, 2)
	b.want(t, trim("a", 0), api.ROK, 2)
	b.no(t, trim("a", 6), api.RArg)
	b.want(t, trim("a", 5), api.ROK, 5)
	b.want(t, trim("a", 5), api.ROK, 5)
	b.want(t, trim("a", 3), api.ROK, 5)
	b.no(t, trim("a", 6), api.RArg)
	b.fill(t, "a", 5, 6)
	b.want(t, trim("a", 6), api.ROK, 6)
	b.want(t, create("b"), api.ROK, 0)
	b.want(t, trim("b", 0), api.ROK, 0)
	b.no(t, trim("b", 1), api.RArg)
}

// P17.1: CCompact tells the low mark too, at 0, at the low mark, at the End and beyond; what it leaves is polled.
func TestCompact(t *testing.T) {
	b := filled(t, 12) // of the keys a, b, none, c in turn
	b.want(t, compact("a", 0), api.ROK, 0)
	b.want(t, trim("a", 1), api.ROK, 1)
	b.want(t, compact("a", 1), api.ROK, 1)
	b.want(t, compact("a", 4), api.ROK, 1)
	b.want(t, subscribe("a", "s", 0), api.ROK, 0)
	b.want(t, poll("s", 2), api.ROK, 5, rec(2), rec(4))
	b.want(t, compact("a", 12), api.ROK, 1)
	b.want(t, poll("s", 2), api.ROK, 9, rec(6), rec(8))
	b.want(t, compact("a", 13), api.ROK, 1)
	b.want(t, compact("a", great), api.ROK, 1)
	b.want(t, poll("s", 9), api.ROK, 12, recs(9, 12)...)
	b.want(t, trim("a", 12), api.ROK, 12)
	b.want(t, compact("a", 12), api.ROK, 12)
	b.want(t, compact("a", 0), api.ROK, 12)
	b.want(t, create("b"), api.ROK, 0)
	b.want(t, compact("b", 0), api.ROK, 0)
	b.want(t, compact("b", 5), api.ROK, 0)
}

// P17.1: CJoin of a node that is wanted already, and of each other one up to the last.
func TestJoin(t *testing.T) {
	b := bothOf(t, 2)
	b.want(t, join(0), api.ROK, 2)
	b.want(t, join(1), api.ROK, 2)
	for i, node := range []int{6, 3, 5, 2, 4} {
		b.want(t, join(node), api.ROK, 3+i)
		b.want(t, join(node), api.ROK, 3+i)
	}
	for node := range 7 {
		b.want(t, join(node), api.ROK, 7)
	}
	b = bothOf(t, api.MaxNodes)
	b.want(t, join(6), api.ROK, 7)
	b.want(t, join(0), api.ROK, 7)
}

// P17.1: CLeave of a node that is not wanted, of one of two, of the only one, which may leave once another one is wanted.
func TestLeave(t *testing.T) {
	b := bothOf(t, 3)
	b.want(t, leave(6), api.ROK, 3)
	b.want(t, leave(3), api.ROK, 3)
	b.want(t, leave(1), api.ROK, 2)
	b.want(t, leave(1), api.ROK, 2)
	b.want(t, leave(0), api.ROK, 1)
	for range 2 {
		b.no(t, leave(2), api.RArg)
		b.want(t, leave(0), api.ROK, 1)
		b.want(t, leave(6), api.ROK, 1)
	}
	b.want(t, join(6), api.ROK, 2)
	b.want(t, leave(2), api.ROK, 1)
	b.no(t, leave(6), api.RArg)
	b.want(t, join(0), api.ROK, 2)
	b.want(t, join(2), api.ROK, 3)
}

// P17.1: whichever node is the only one.
func TestLeaveOfTheOnlyOne(t *testing.T) {
	bothOf(t, 1).no(t, leave(0), api.RArg)
	for last := range 7 {
		b := bothOf(t, 7)
		many := 7
		for node := range 7 {
			if node != last {
				many--
				b.want(t, leave(node), api.ROK, many)
			}
		}
		b.no(t, leave(last), api.RArg)
		if l := b.m.Wanted(); !slices.Equal(l, []int{last}) {
			t.Errorf("Wanted %v", l)
		}
		b.want(t, join(last), api.ROK, 1)
	}
}

// P17.2: Topics rise, by bytes, in whatever order they were created.
func TestTopicsRise(t *testing.T) {
	names := []string{"0", "1", "10", "9", "a", "a0", "aa", "ab", "b", "ba", "z", size("z", 20)}
	for seed := range uint32(40) {
		next := walk(seed)
		l := slices.Clone(names)
		b := bothOf(t, 1)
		for len(l) > 0 {
			i := next(len(l))
			b.want(t, create(l[i]), api.ROK, 0)
			l = slices.Delete(l, i, i+1)
		}
		for range 20 { // a map is gone through in another order each time
			if l := b.m.Topics(); !slices.Equal(l, names) {
				t.Fatalf("Topics %v; want %v", l, names)
			}
		}
	}
}

// P17.2: what no command may name is not there either.
func TestNamesThatAreNoWords(t *testing.T) {
	b := filled(t, 3)
	b.want(t, subscribe("a", "s", 0), api.ROK, 0)
	for _, name := range []string{"", "A", "S", "a ", " s", "a\x00", "\xff", size("a", 21), size("s", 1<<20)} {
		if x, ok := b.m.Topic(name); x != nil || ok {
			t.Errorf("Topic(%q): %v", name, ok)
		}
		if s, ok := b.m.Sub(name); s != (subs.Sub{}) || ok {
			t.Errorf("Sub(%q): %v, %v", name, s, ok)
		}
	}
}
