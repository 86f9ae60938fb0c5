package node_test

import (
	"fmt"
	"testing"

	"carillon/api"
)

func helloOf(x api.Member, number int, promised api.Ballot) api.Message {
	return api.Message{Kind: api.MHello, From: x.Node, Life: x.Life, View: number, Ballot: promised}
}

func prepareOf(x api.Member, number int, b api.Ballot) api.Message {
	return api.Message{Kind: api.MPrepare, From: x.Node, Life: x.Life, View: number, Ballot: b}
}

func promiseOf(x api.Member, number int, b api.Ballot, log ...string) api.Message {
	return api.Message{Kind: api.MPromise, From: x.Node, Life: x.Life, View: number, Ballot: b, Texts: log}
}

func takeOf(x api.Member, number int, b api.Ballot, value string) api.Message {
	return api.Message{Kind: api.MTake, From: x.Node, Life: x.Life, View: number, Ballot: b, Value: value}
}

func takenOf(x api.Member, number int, b api.Ballot) api.Message {
	return api.Message{Kind: api.MTaken, From: x.Node, Life: x.Life, View: number, Ballot: b}
}

func refuseOf(x api.Member, number int, b api.Ballot) api.Message {
	return api.Message{Kind: api.MRefuse, From: x.Node, Life: x.Life, View: number, Ballot: b}
}

func beatOf(x api.Member, number, n, sure int, texts ...string) api.Message {
	return api.Message{Kind: api.MBeat, From: x.Node, Life: x.Life, View: number, N: n, Sure: sure, Texts: texts}
}

func haveOf(x api.Member, number, n int) api.Message {
	return api.Message{Kind: api.MHave, From: x.Node, Life: x.Life, View: number, N: n}
}

func installOf(x api.Member, value string) api.Message {
	return api.Message{Kind: api.MInstall, From: x.Node, Life: x.Life, Value: value}
}

func forwardOf(x api.Member, texts ...string) api.Message {
	return api.Message{Kind: api.MForward, From: x.Node, Life: x.Life, Texts: texts}
}

// hear has members say hello, of the view that the node has.
func (b *both) hear(t testing.TB, members ...api.Member) {
	t.Helper()
	for _, x := range members {
		b.take(t, helloOf(x, b.x.View().Number, none))
	}
}

// standing is a way in which a node may stand when a message comes.
type standing struct {
	name string
	make func() *both
}

// standings are nodes of a cluster of four: members and one that is none, the sequencer and others, flushing or not, with a proposal or without one. The view has node 1 in its Life 2, and not node 3.
func standings(t testing.TB) []standing {
	v := of(2, m(0, 1), m(1, 2), m(2, 1))
	a, b := create(t, "a", 0), create(t, "b", 0)
	in := func(self api.Member, heard ...api.Member) *both {
		x := bothOf(t, self, 4, save(1, value(v, a), 0), save(3, b, 1))
		x.hear(t, heard...)
		return x
	}
	begun := func() *both { // node 2 is not heard
		x := in(m(0, 1), m(1, 2))
		x.tick(t)
		return x
	}
	return []standing{
		{"a sequencer", func() *both { return in(m(0, 1), m(1, 2), m(2, 1)) }},
		{"a sequencer that hears nobody", func() *both { return in(m(0, 1)) }},
		{"a member", func() *both { return in(m(1, 2), m(0, 1), m(2, 1)) }},
		{"a member that flushes", func() *both {
			x := in(m(2, 1), m(0, 1), m(1, 2))
			x.take(t, prepareOf(m(0, 1), 3, bal(2, 0)))
			return x
		}},
		{"a member that has taken", func() *both {
			x := in(m(2, 1), m(0, 1), m(1, 2))
			x.take(t, takeOf(m(0, 1), 3, bal(2, 0), value(of(3, m(0, 1), m(2, 1)), a, b)))
			return x
		}},
		{"a sequencer that flushes", func() *both {
			x := in(m(0, 1), m(1, 2), m(2, 1))
			x.take(t, prepareOf(m(1, 2), 3, bal(2, 1)))
			return x
		}},
		{"one that asks", begun},
		{"one that tells", func() *both {
			x := begun()
			x.take(t, promiseOf(m(1, 2), 3, bal(1, 0), a))
			return x
		}},
		{"one that asks, and has promised another one", func() *both {
			x := begun()
			x.take(t, prepareOf(m(1, 2), 3, bal(2, 1)))
			return x
		}},
		{"one without a view", func() *both { return bothOf(t, m(3, 2), 4) }},
	}
}

// P20.4: each kind of message, of each view, of each sender, with each ballot, at nodes that stand in each way, against the plain node; what they know then is to be seen in the next ticks.
func TestEachMessageAtEachStanding(t *testing.T) {
	t.Parallel()
	a, b, c := create(t, "a", 0), create(t, "b", 0), create(t, "c", 0)
	senders := []api.Member{m(0, 1), m(1, 2), m(2, 1), m(1, 1), m(1, 3), m(3, 1), m(4, 1)}
	ballots := []api.Ballot{none, bal(1, 0), bal(1, 1), bal(2, 0), bal(2, 1), bal(7, 0)}
	values := []string{"", "x", value(of(3, m(0, 1), m(1, 2)), a, b), value(of(3, m(0, 1), m(1, 2), m(2, 1), m(3, 2)), a, b, c), value(of(2, m(0, 1), m(2, 1)), a), value(of(9, m(0, 1), m(2, 1), m(4, 1)))}
	texts := [][]string{nil, {c}, {a, b}, {a, b, c}, {a, c}, {"x"}}
	many := 0
	for _, s := range standings(t) {
		try := func(x api.Message) {
			for _, from := range senders {
				for number := range 5 {
					x.From, x.Life, x.View = from.Node, from.Life, number
					n := s.make()
					n.take(t, x)
					n.tick(t)
					n.tick(t)
					many++
				}
			}
		}
		for _, b := range ballots {
			for _, kind := range []int{api.MHello, api.MPrepare, api.MRefuse, api.MTaken} {
				try(api.Message{Kind: kind, Ballot: b})
			}
			for _, v := range values {
				try(api.Message{Kind: api.MTake, Ballot: b, Value: v})
			}
			for _, log := range texts {
				try(api.Message{Kind: api.MPromise, Ballot: b, Texts: log})
			}
			try(api.Message{Kind: api.MPromise, Ballot: b, Texts: texts[2], Taken: bal(1, 0), Value: values[2]})
		}
		for n := range 4 {
			try(api.Message{Kind: api.MHave, N: n})
			for _, l := range texts {
				try(api.Message{Kind: api.MBeat, N: n, Texts: l, Sure: 3 - n})
			}
		}
		for _, v := range values {
			try(api.Message{Kind: api.MInstall, Value: v})
		}
		for _, l := range texts {
			try(api.Message{Kind: api.MForward, Texts: l})
		}
	}
	if many < 30000 {
		t.Error(many)
	}
}

// P20.4: a sender of an elder life than the one that was heard, whatever it says: nothing, and it is not heard.
func TestElderLives(t *testing.T) {
	for _, s := range standings(t) {
		for kind := 1; kind <= 10; kind++ {
			for _, elder := range []api.Member{m(1, 1), m(1, 2)} {
				b := s.make()
				b.take(t, helloOf(m(1, 3), 0, none))
				x := api.Message{Kind: kind, From: elder.Node, Life: elder.Life, View: b.p.view.Number + kind%2, Ballot: bal(3, 1), Value: value(of(5, m(0, 1), m(1, 2), m(2, 1)))}
				if e := b.take(t, x); !sameEffects(e, api.Effects{}) {
					t.Errorf("%s: %s: %s", s.name, shownMessage(x), shown(e))
				}
				b.tick(t)
			}
		}
	}
}

// P20.4, P2: a message that is not right, by each of its fields, a sender that is no node, or the node itself: nothing, and nobody is heard.
func TestRefusedMessages(t *testing.T) {
	for _, s := range standings(t) {
		for _, wrong := range wrongMessages() {
			b := s.make()
			want := fmt.Sprint(b.x.View(), b.x.Primary(), b.x.Sure(), len(b.x.Log()))
			if e := b.take(t, wrong); !sameEffects(e, api.Effects{}) {
				t.Errorf("%s: %s: %s", s.name, shownMessage(wrong), shown(e))
			}
			if got := fmt.Sprint(b.x.View(), b.x.Primary(), b.x.Sure(), len(b.x.Log())); got != want {
				t.Errorf("%s: %s: %s; was %s", s.name, shownMessage(wrong), got, want)
			}
			b.tick(t)
		}
		for _, from := range []int{4, 5, 6} {
			for kind := 1; kind <= 10; kind++ {
				b := s.make()
				x := api.Message{Kind: kind, From: from, Life: 1, View: 2, Value: value(of(5, m(0, 1), m(1, 2), m(2, 1), m(3, 2)))}
				if e := b.take(t, x); !sameEffects(e, api.Effects{}) {
					t.Errorf("%s: %s: %s", s.name, shownMessage(x), shown(e))
				}
				b.tick(t)
			}
		}
		for kind := 1; kind <= 10; kind++ {
			for life := 1; life < 4; life++ {
				b := s.make()
				x := api.Message{Kind: kind, From: b.p.self.Node, Life: life, View: 2 + kind%2, Value: value(of(5, m(0, 1), m(1, 2), m(2, 1), m(3, 2)))}
				if e := b.take(t, x); !sameEffects(e, api.Effects{}) {
					t.Errorf("%s: %s: %s", s.name, shownMessage(x), shown(e))
				}
				b.tick(t)
			}
		}
	}
}

// wrongMessages are right ones but for one field each.
func wrongMessages() []api.Message {
	var l []api.Message
	for kind := 1; kind <= 10; kind++ {
		right := api.Message{Kind: kind, From: 1, Life: 2, View: 3, N: 1, Sure: 1, Ballot: bal(2, 1), Taken: bal(1, 1), Value: value(of(5, m(0, 1), m(1, 2), m(2, 1), m(3, 2))), Texts: []string{"x"}}
		for _, spoil := range spoilings() {
			x := right
			spoil(&x)
			l = append(l, x)
		}
	}
	return l
}

// spoilings are ways to have a right message be none, by one field each.
func spoilings() []func(*api.Message) {
	var l []func(*api.Message)
	for _, n := range []int{0, -1, 11, 12, 255, 256 + 1, -1 << 63, 1<<63 - 1} {
		l = append(l, func(x *api.Message) { x.Kind = n })
	}
	for _, n := range []int{-1, 7, 8, 255, 256, 1<<63 - 1, -1 << 63} {
		l = append(l, func(x *api.Message) { x.From = n }, func(x *api.Message) { x.Ballot.Node = n }, func(x *api.Message) { x.Taken.Node = n })
	}
	for _, n := range []int{-1, great + 1, 1<<63 - 1, -1 << 63} {
		l = append(l, func(x *api.Message) { x.Life = n }, func(x *api.Message) { x.View = n }, func(x *api.Message) { x.N = n }, func(x *api.Message) { x.Sure = n },
			func(x *api.Message) { x.Ballot.Round = n }, func(x *api.Message) { x.Taken.Round = n })
	}
	return append(l,
		func(x *api.Message) { x.Life = 0 },
		func(x *api.Message) { x.Ballot = bal(0, 1) },
		func(x *api.Message) { x.Taken = bal(0, 6) },
		func(x *api.Message) { x.Value = times("v", api.MaxText+1) },
		func(x *api.Message) { x.Texts = make([]string, 981) },
		func(x *api.Message) { x.Texts = make([]string, 5000) },
		func(x *api.Message) { x.Texts = []string{"a", times("t", api.MaxText+1)} },
		func(x *api.Message) { x.Texts = []string{times("t", api.MaxText+1), "a"} },
	)
}
