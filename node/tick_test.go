package node_test

import (
	"slices"
	"testing"

	"carillon/api"
)

// hellos are what a node tells all the others of so many nodes.
func hellos(self api.Member, nodes, number int, promised api.Ballot) []api.Send {
	var l []api.Send
	for n := range nodes {
		if n != self.Node {
			l = append(l, to(n, helloOf(self, number, promised)))
		}
	}
	return l
}

// ticks has so many go by, and tells what came of the last one.
func (b *both) ticks(t testing.TB, n int) api.Effects {
	t.Helper()
	var e api.Effects
	for range n {
		e = b.tick(t)
	}
	return e
}

// P20.2: MHello goes to each other node, rising, with the view's Number and what is promised.
func TestHellos(t *testing.T) {
	for nodes := 1; nodes <= api.MaxNodes; nodes++ {
		for n := range nodes {
			self := m(n, 2)
			want(t, "without a view", bothOf(t, self, nodes).tick(t), sends(hellos(self, nodes, 0, none)...))
			self = m(n, 1)
			x := bothOf(t, self, nodes, save(2, accepted(bal(4, 2), none, ""), 0))
			if nodes > 1 {
				want(t, "flushing", x.tick(t), sends(hellos(self, nodes, 1, bal(4, 2))...))
			}
			alone := bothOf(t, self, nodes, save(1, value(of(9, self)), 0))
			if e := alone.tick(t); nodes > 1 || len(e.Sends) > 0 {
				want(t, "a view of one", e, sends(hellos(self, nodes, 9, none)...))
			}
		}
	}
}

// P20.2: MBeat goes from the sequencer to each other member, with up to four texts that it does not have, and what is sure.
func TestBeats(t *testing.T) {
	var l []string
	for n := range 7 {
		l = append(l, create(t, "a", n))
	}
	v := of(3, m(1, 1), m(2, 2), m(4, 1), m(5, 1))
	x := bothOf(t, m(1, 1), 6, save(1, value(v, l[:2]...), 0))
	x.hear(t, m(2, 2), m(4, 1), m(5, 1))
	beats := []int{api.MBeat}
	beat := func(n, sure int, texts ...string) api.Message { return beatOf(m(1, 1), 3, n, sure, texts...) }
	wantSends(t, "nothing new", x.tick(t), beats, to(2, beat(2, 2)), to(4, beat(2, 2)), to(5, beat(2, 2)))
	for _, s := range l[2:] {
		wantPropose(t, x, s, api.ROK)
	}
	wantSends(t, "five new ones", x.tick(t), beats, to(2, beat(2, 2, l[2:6]...)), to(4, beat(2, 2, l[2:6]...)), to(5, beat(2, 2, l[2:6]...)))
	x.take(t, haveOf(m(4, 1), 3, 3))
	x.take(t, haveOf(m(2, 2), 3, 7))
	wantSends(t, "as they have", x.tick(t), beats, to(2, beat(7, 3)), to(4, beat(3, 3, l[3:7]...)), to(5, beat(2, 3, l[2:6]...)))
	x.take(t, haveOf(m(5, 1), 3, 6))
	want(t, "hellos ahead of beats", x.tick(t), sends(append(hellos(m(1, 1), 6, 3, none), to(2, beat(7, 6)), to(4, beat(3, 6, l[3:7]...)), to(5, beat(6, 6, l[6:]...)))...))
	x.take(t, prepareOf(m(4, 1), 4, bal(1, 4)))
	wantSends(t, "flushing", x.tick(t), beats)
	other := bothOf(t, m(2, 2), 6, save(1, value(v), 0))
	wantSends(t, "not the sequencer", other.tick(t), beats)
	wantSends(t, "without a view", bothOf(t, m(0, 2), 6).tick(t), beats)
	if nobody := bothOf(t, m(0, 1), 3); len(nobody.tick(t).Sends) != 2+2 {
		t.Error("a sequencer that hears nobody tells its log all the same")
	}
}

// P20.2: nothing is needed, where all members are alive and wanted, and nobody else is.
func TestNoChange(t *testing.T) {
	for nodes := 1; nodes <= api.MaxNodes; nodes++ {
		for n := range nodes {
			x := bothOf(t, m(n, 1), nodes)
			for range 12 {
				x.hear(t, all(1, nodes).Members...)
				wantSends(t, "no change", x.tick(t), change())
			}
		}
	}
}

// P20.2: each of the reasons for which a change is needed; there is a goal in each case, and it is the node's turn.
func TestNeeded(t *testing.T) {
	for _, c := range []struct {
		name  string
		self  api.Member
		do    func(b *both)
		round int // of the proposal that is begun; 0: none is
		to    []int
	}{
		{"a member is not alive", m(0, 1), func(b *both) { b.hear(t, m(1, 1)) }, 1, []int{1, 2}},
		{"a member has another life", m(0, 1), func(b *both) { b.hear(t, m(1, 1), m(2, 3)) }, 1, []int{1, 2}},
		{"a node that is none is wanted and alive", m(0, 1), func(b *both) { b.hear(t, m(1, 1), m(2, 1), m(3, 1)) }, 1, []int{1, 2}},
		{"a node that is none, of whichever life", m(0, 1), func(b *both) { b.hear(t, m(1, 1), m(2, 1), m(3, 9)) }, 1, []int{1, 2}},
		{"the sequencer is not alive", m(1, 1), func(b *both) { b.hear(t, m(2, 1)) }, 1, []int{0, 2}},
		{"it flushes", m(0, 1), func(b *both) {
			b.hear(t, m(1, 1), m(2, 1))
			b.take(t, prepareOf(m(1, 1), 3, bal(4, 1)))
		}, 5, []int{1, 2}},
		{"it flushes, and its ballot was of its own", m(0, 1), func(b *both) {
			b.hear(t, m(1, 1), m(2, 1))
			b.take(t, prepareOf(m(1, 1), 3, bal(4, 0)))
		}, 5, []int{1, 2}},
		{"a member has promised", m(0, 1), func(b *both) {
			b.hear(t, m(1, 1))
			b.take(t, helloOf(m(2, 1), 2, bal(3, 2)))
		}, 4, []int{1, 2}},
		{"a member has promised, and what comes late says less", m(0, 1), func(b *both) {
			b.hear(t, m(1, 1))
			b.take(t, helloOf(m(2, 1), 2, bal(3, 2)))
			b.take(t, helloOf(m(2, 1), 2, bal(2, 2)))
			b.take(t, helloOf(m(2, 1), 2, none))
		}, 4, []int{1, 2}},
		{"all members have", m(0, 1), func(b *both) {
			b.take(t, helloOf(m(1, 1), 2, bal(3, 2)))
			b.take(t, helloOf(m(2, 1), 2, bal(7, 1)))
		}, 8, []int{1, 2}},
		{"one that is none has promised in this view", m(0, 1), func(b *both) {
			b.hear(t, m(1, 1), m(2, 1))
			b.take(t, helloOf(m(3, 1), 2, bal(3, 2)))
		}, 1, []int{1, 2}},
		{"nothing", m(0, 1), func(b *both) { b.hear(t, m(1, 1), m(2, 1)) }, 0, nil},
		{"a member has promised in another view", m(0, 1), func(b *both) {
			b.hear(t, m(1, 1), m(2, 1))
			b.take(t, helloOf(m(2, 1), 3, bal(3, 2)))
			b.take(t, helloOf(m(1, 1), 1, bal(3, 2)))
		}, 0, nil},
		{"a member's other life has promised", m(0, 1), func(b *both) {
			b.hear(t, m(1, 1))
			b.take(t, helloOf(m(2, 2), 2, bal(3, 2)))
		}, 1, []int{1, 2}},
		{"no majority is alive", m(0, 1), func(b *both) { b.hear(t, m(3, 1)) }, 0, nil},
		{"no majority is alive, and it flushes", m(1, 1), func(b *both) {
			b.take(t, prepareOf(m(0, 1), 3, bal(4, 0)))
			b.ticks(t, 4)
		}, 0, nil},
		{"a lesser one is alive", m(1, 1), func(b *both) { b.hear(t, m(0, 1)) }, 0, nil},
		{"a lesser one that is none is alive", m(1, 1), func(b *both) { b.hear(t, m(2, 1), m(0, 2)) }, 1, []int{0, 2}},
		{"a lesser one is alive, and it flushes", m(2, 1), func(b *both) {
			b.hear(t, m(1, 1))
			b.take(t, prepareOf(m(1, 1), 3, bal(4, 1)))
		}, 0, nil},
		{"without a view", m(0, 2), func(b *both) { b.hear(t, m(1, 1), m(2, 1)) }, 0, nil},
	} {
		b := bothOf(t, c.self, 4, save(1, value(of(2, m(0, 1), m(1, 1), m(2, 1))), 0))
		c.do(b)
		e := b.tick(t)
		var want []api.Send
		for _, n := range c.to {
			want = append(want, to(n, prepareOf(c.self, 3, bal(c.round, c.self.Node))))
		}
		if c.round == 0 {
			wantSends(t, c.name, e, change())
			continue
		}
		wantSends(t, c.name, e, change(), want...)
		if s := []string{save(2, accepted(bal(c.round, c.self.Node), none, ""), 0)}; !slices.Equal(e.Saves, s) {
			t.Errorf("%s: %q; want %q", c.name, e.Saves, s)
		}
	}
}

// asking tells a node 0 of five that has begun a proposal of the view {0, 1, 2}, as node 3 and 4 are silent.
func asking(t *testing.T, saved ...string) *both {
	t.Helper()
	b := bothOf(t, m(0, 1), 5, saved...)
	b.hear(t, m(1, 1), m(2, 1))
	b.tick(t)
	if b.p.own == nil || b.p.own.ballot != bal(1, 0) {
		t.Fatal("no proposal")
	}
	return b
}

func prepares(b api.Ballot, nodes ...int) []api.Send {
	var l []api.Send
	for _, n := range nodes {
		l = append(l, to(n, prepareOf(m(b.Node, 1), 2, b)))
	}
	return l
}

func takes(b api.Ballot, value string, nodes ...int) []api.Send {
	var l []api.Send
	for _, n := range nodes {
		l = append(l, to(n, takeOf(m(b.Node, 1), 2, b, value)))
	}
	return l
}

func installs(from int, value string, nodes ...int) []api.Send {
	var l []api.Send
	for _, n := range nodes {
		l = append(l, to(n, installOf(m(from, 1), value)))
	}
	return l
}

// P20.2: a proposal is told again to those that are Missing, till it is Patience ticks old; then another one is begun, of a greater Round.
func TestPatience(t *testing.T) {
	b := asking(t)
	wantSends(t, "one tick old", b.tick(t), change(), prepares(bal(1, 0), 1, 2, 3, 4)...)
	b.take(t, promiseOf(m(3, 1), 2, bal(1, 0)))
	b.hear(t, m(1, 1), m(2, 1))
	wantSends(t, "two ticks old", b.tick(t), change(), prepares(bal(1, 0), 1, 2, 4)...)
	wantSends(t, "three ticks old", b.tick(t), change(), prepares(bal(1, 0), 1, 2, 4)...)
	e := b.tick(t)
	wantSends(t, "four ticks old", e, change(), prepares(bal(2, 0), 1, 2, 3, 4)...)
	if s := []string{save(2, accepted(bal(2, 0), none, ""), 0)}; !slices.Equal(e.Saves, s) {
		t.Errorf("%q; want %q", e.Saves, s)
	}
	nothing(t, "an answer to the one that was dropped", b.take(t, promiseOf(m(1, 1), 2, bal(1, 0))))
	nothing(t, "likewise", b.take(t, refuseOf(m(1, 1), 2, bal(1, 6))))
	wantSends(t, "one tick old", b.tick(t), change(), prepares(bal(2, 0), 1, 2, 3, 4)...)
	b.ticks(t, 2)
	wantSends(t, "dropped, as no majority is alive any more", b.tick(t), change())
	wantSends(t, "none is begun", b.tick(t), change())
	b.hear(t, m(1, 1), m(2, 1))
	wantSends(t, "the next one", b.tick(t), change(), prepares(bal(3, 0), 1, 2, 3, 4)...)
}

// P20.2: a proposal goes on till it is dropped, also when nothing is needed any more, and when it is another one's turn.
func TestItGoesOn(t *testing.T) {
	b := bothOf(t, m(1, 1), 3)
	b.hear(t, m(2, 1))
	wantSends(t, "the sequencer is silent", b.tick(t), change(), prepares(bal(1, 1), 0, 2)...)
	b.hear(t, m(0, 1))
	wantSends(t, "it is not any more", b.tick(t), change(), prepares(bal(1, 1), 0, 2)...)
	b.ticks(t, 2)
	b.hear(t, m(0, 1), m(2, 1))
	wantSends(t, "it is dropped, and it is not its turn", b.tick(t), change())
}

// P20.2, READY: the promises of a majority have the value be told: flush.Own of the goal and of their logs.
func TestReady(t *testing.T) {
	a, c := create(t, "a", 0), create(t, "c", 0)
	goal := of(2, m(0, 1), m(1, 1), m(2, 1))
	for _, x := range []struct {
		name          string
		first, second []string // the logs of two that promise
		log           []string // with which the next view begins
	}{
		{"no logs", nil, nil, []string{a}},
		{"the same", []string{a}, []string{a}, []string{a}},
		{"a longer one", []string{a, c}, nil, []string{a, c}},
		{"a longer one behind", nil, []string{a, c, "x"}, []string{a, c, "x"}},
		{"longer ones", []string{a, c}, []string{a, c, "x"}, []string{a, c, "x"}},
	} {
		b := asking(t, save(3, a, 0))
		nothing(t, x.name, b.take(t, promiseOf(m(4, 1), 2, bal(1, 0), x.first...)))
		v := value(goal, x.log...)
		want(t, x.name, b.take(t, promiseOf(m(2, 1), 2, bal(1, 0), x.second...)), api.Effects{
			Saves: []string{save(2, accepted(bal(1, 0), bal(1, 0), v), 0)},
			Sends: takes(bal(1, 0), v, 1, 2, 3, 4),
		})
		wantSends(t, x.name+", told again", b.tick(t), change(), takes(bal(1, 0), v, 1, 2, 3, 4)...)
		nothing(t, "a promise that comes late", b.take(t, promiseOf(m(1, 1), 2, bal(1, 0), a, c, "x", "y")))
	}
}

// P20.2, READY: one fewer than a majority is not enough, of whichever number of nodes; who promises twice counts once, and who is none, or says another ballot or view, not at all.
func TestMajorities(t *testing.T) {
	for nodes := 2; nodes <= api.MaxNodes; nodes++ {
		majority := nodes/2 + 1
		b := bothOf(t, m(0, 1), nodes)
		for n := 1; n < majority; n++ {
			b.hear(t, m(n, 1))
		}
		b.tick(t)
		if nodes == 2 { // all are alive; it is to be changed all the same
			b.take(t, helloOf(m(1, 1), 1, bal(1, 1)))
			b.tick(t)
		}
		o := b.p.own.ballot
		for range 2 {
			nothing(t, "the same promise again", b.take(t, promiseOf(m(0, 1), 2, o)))
		}
		for n := 1; n < majority-1; n++ {
			nothing(t, "a promise", b.take(t, promiseOf(m(n, 1), 2, o)))
			nothing(t, "the same again", b.take(t, promiseOf(m(n, 1), 2, o, "x")))
		}
		last := majority - 1
		nothing(t, "another ballot", b.take(t, promiseOf(m(last, 1), 2, bal(o.Round, 1))))
		nothing(t, "another ballot", b.take(t, promiseOf(m(last, 1), 2, bal(o.Round+1, 0))))
		nothing(t, "another view", b.take(t, promiseOf(m(last, 1), 3, o)))
		nothing(t, "this view", b.take(t, promiseOf(m(last, 1), 1, o)))
		nothing(t, "nothing is told, and one takes it", b.take(t, takenOf(m(last, 1), 2, o)))
		e := b.take(t, promiseOf(m(last, 1), 2, o))
		if len(e.Sends) != nodes-1 || len(e.Saves) != 1 || e.Sends[0].M.Kind != api.MTake {
			t.Fatalf("%d nodes, ready: %s", nodes, shown(e))
		}
		v := e.Sends[0].M.Value
		for n := 1; n < majority-1; n++ {
			nothing(t, "it is taken", b.take(t, takenOf(m(n, 1), 2, o)))
			nothing(t, "the same again", b.take(t, takenOf(m(n, 1), 2, o)))
		}
		nothing(t, "another ballot", b.take(t, takenOf(m(last, 1), 2, bal(o.Round, 1))))
		nothing(t, "another view", b.take(t, takenOf(m(last, 1), 3, o)))
		var others []int
		for n := 1; n < nodes; n++ {
			others = append(others, n)
		}
		want(t, "decided", b.take(t, takenOf(m(last, 1), 2, o)), api.Effects{Saves: []string{save(1, v, 0)}, Sends: installs(0, v, others...)})
		nothing(t, "it comes late", b.take(t, takenOf(m(1, 1), 2, o)))
	}
}

// P20.2, READY: logs of which none is the others' beginning, or that are too long for a VALUE, have nothing be told.
func TestNotReady(t *testing.T) {
	a, c := create(t, "a", 0), create(t, "c", 0)
	b := asking(t, save(3, a, 0))
	nothing(t, "one", b.take(t, promiseOf(m(1, 1), 2, bal(1, 0), c)))
	nothing(t, "a majority", b.take(t, promiseOf(m(2, 1), 2, bal(1, 0), a)))
	nothing(t, "all but one", b.take(t, promiseOf(m(3, 1), 2, bal(1, 0), a, c)))
	nothing(t, "all", b.take(t, promiseOf(m(4, 1), 2, bal(1, 0))))
	wantSends(t, "nobody is Missing", b.tick(t), change())
	for _, log := range [][]string{slices.Repeat([]string{"0123456789"}, 980), {a, times("x", api.MaxText-1)}} {
		b = asking(t, save(3, log[0], 0))
		nothing(t, "one", b.take(t, promiseOf(m(1, 1), 2, bal(1, 0))))
		if e := b.take(t, promiseOf(m(2, 1), 2, bal(1, 0), log...)); len(log) == 2 {
			nothing(t, "too many bytes", e)
		} else if len(e.Sends) != 4 {
			t.Errorf("980 texts: %s", shown(e))
		}
	}
	full := bothOf(t, m(0, 1), 1, save(1, value(of(2, m(0, 1)), make([]string, 990)...), 0), save(3, "", 990))
	if len(full.x.Log()) != 991 {
		t.Fatal(len(full.x.Log()))
	}
	full = bothOf(t, m(0, 1), 2, save(1, value(of(2, m(0, 1)), make([]string, 990)...), 0), save(3, "", 990))
	full.hear(t, m(1, 1))
	want(t, "991 texts of one who promises to itself", full.tick(t), api.Effects{
		Saves: []string{save(2, accepted(bal(1, 0), none, ""), 0)},
		Sends: hellos(m(0, 1), 2, 2, none),
	})
}

// P20.2, READY: where one of those who promise had taken something, the value is that of the greatest ballot.
func TestValueOfOld(t *testing.T) {
	old, older := value(of(2, m(0, 1), m(3, 1), m(4, 1)), "old"), value(of(2, m(1, 1), m(2, 1), m(4, 1)), "older")
	with := func(x api.Message, taken api.Ballot, value string) api.Message {
		x.Taken, x.Value = taken, value
		return x
	}
	for _, c := range []struct {
		name          string
		saved         []string
		first, second api.Message
		ballot        api.Ballot
		want          string
	}{
		{"the first", nil, with(promiseOf(m(1, 1), 2, bal(1, 0)), bal(1, 0), old), promiseOf(m(2, 1), 2, bal(1, 0)), bal(1, 0), old},
		{"the last", nil, promiseOf(m(1, 1), 2, bal(1, 0)), with(promiseOf(m(2, 1), 2, bal(1, 0)), bal(1, 0), old), bal(1, 0), old},
		{"the greater one", []string{save(2, accepted(bal(4, 1), none, ""), 0)}, with(promiseOf(m(1, 1), 2, bal(5, 0)), bal(3, 2), older), with(promiseOf(m(2, 1), 2, bal(5, 0)), bal(3, 3), old), bal(5, 0), old},
		{"the node itself", []string{save(2, accepted(bal(4, 1), bal(4, 1), old), 0)}, with(promiseOf(m(1, 1), 2, bal(5, 0)), bal(3, 2), older), promiseOf(m(2, 1), 2, bal(5, 0)), bal(5, 0), old},
		{"the same", []string{save(2, accepted(bal(4, 1), bal(4, 1), old), 0)}, with(promiseOf(m(1, 1), 2, bal(5, 0)), bal(4, 1), old), promiseOf(m(2, 1), 2, bal(5, 0)), bal(5, 0), old},
	} {
		b := bothOf(t, m(0, 1), 5, c.saved...)
		b.hear(t, m(1, 1), m(2, 1))
		b.tick(t)
		nothing(t, c.name, b.take(t, c.first))
		want(t, c.name, b.take(t, c.second), api.Effects{
			Saves: []string{save(2, accepted(c.ballot, c.ballot, c.want), 0)},
			Sends: takes(c.ballot, c.want, 1, 2, 3, 4),
		})
		b.take(t, takenOf(m(1, 1), 2, c.ballot))
		e := b.take(t, takenOf(m(2, 1), 2, c.ballot))
		want(t, c.name+", decided", e, api.Effects{Saves: []string{save(1, old, 0)}, Sends: installs(0, old, 1, 2, 3, 4), Done: []api.Done{{Text: "old", Reply: api.Reply{Code: api.RMalformed}}}})
	}
	b := asking(t)
	nothing(t, "a Taken above the ballot", b.take(t, with(promiseOf(m(1, 1), 2, bal(1, 0)), bal(1, 1), old)))
	nothing(t, "a Value, and nothing taken", b.take(t, with(promiseOf(m(2, 1), 2, bal(1, 0)), none, old)))
	nothing(t, "the first that counts", b.take(t, promiseOf(m(3, 1), 2, bal(1, 0))))
	if e := b.take(t, promiseOf(m(1, 1), 2, bal(1, 0))); len(e.Sends) != 4 {
		t.Error(shown(e))
	}
}

// P20.2, DECIDED: a value that may not be installed here goes to those whom it concerns, and the proposal is dropped.
func TestDecidedForOthers(t *testing.T) {
	for _, c := range []struct {
		name, value string
		to          []int
	}{
		{"self is not of it", value(of(3, m(1, 1), m(2, 1), m(3, 1))), []int{1, 2, 3}},
		{"self is not of it, and no other one is", value(of(3, m(1, 1), m(2, 1))), []int{1, 2}},
		{"another life of self", value(of(3, m(0, 2), m(2, 1), m(3, 1))), []int{1, 2, 3}},
		{"no VALUE", "x", []int{1, 2}},
		{"nothing", "", []int{1, 2}},
		{"a member that is no node", value(of(3, m(0, 1), m(4, 1))), []int{1, 2, 4}},
		{"this view", value(all(2, 4)), []int{1, 2, 3}},
	} {
		b := bothOf(t, m(0, 1), 4, save(1, value(all(2, 3)), 0), save(2, accepted(bal(3, 1), bal(2, 1), c.value), 0))
		b.hear(t, m(1, 1))
		b.tick(t)
		b.take(t, promiseOf(m(1, 1), 3, bal(4, 0)))
		want(t, c.name, b.take(t, takenOf(m(1, 1), 3, bal(4, 0))), sends(installs(0, c.value, c.to...)...))
		nothing(t, "the proposal is dropped", b.take(t, takenOf(m(2, 1), 3, bal(4, 0))))
		wantState(t, b.x, all(2, 3), false, true, 0)
		wantSends(t, c.name+", and another one is begun", b.tick(t), []int{api.MPrepare}, to(1, prepareOf(m(0, 1), 3, bal(5, 0))), to(2, prepareOf(m(0, 1), 3, bal(5, 0))))
	}
}

// P20.2: a view of one goes on to the next one within a tick.
func TestAlone(t *testing.T) {
	a := create(t, "a", 0)
	b := bothOf(t, m(1, 1), 3, save(1, value(of(4, m(1, 1)), a), 0), save(3, "x", 1))
	wantSends(t, "nobody else is alive", b.tick(t), change())
	b.hear(t, m(2, 5))
	v := value(of(5, m(1, 1), m(2, 5)), a, "x")
	want(t, "another one is", b.tick(t), api.Effects{
		Saves: []string{save(2, accepted(bal(1, 1), none, ""), 0), save(2, accepted(bal(1, 1), bal(1, 1), v), 0), save(1, v, 0)},
		Sends: append(hellos(m(1, 1), 3, 4, none), installs(1, v, 2)...),
	})
	wantState(t, b.x, of(5, m(1, 1), m(2, 5)), true, true, 2, a, "x")
	want(t, "it is told again to who says that it has none", b.take(t, helloOf(m(2, 5), 0, none)), sends(installs(1, v, 2)...))
}

// P20.2: what a node has promised to another one meanwhile keeps it from taking its own value: then it is Missing itself.
func TestOwnAcceptor(t *testing.T) {
	b := asking(t)
	want(t, "another one asks", b.take(t, prepareOf(m(1, 1), 2, bal(1, 1))), api.Effects{
		Saves: []string{save(2, accepted(bal(1, 1), none, ""), 0)},
		Sends: []api.Send{to(1, promiseOf(m(0, 1), 2, bal(1, 1)))},
	})
	nothing(t, "the first promise", b.take(t, promiseOf(m(2, 1), 2, bal(1, 0))))
	v := value(of(2, m(0, 1), m(1, 1), m(2, 1)))
	want(t, "ready, and not taken here", b.take(t, promiseOf(m(3, 1), 2, bal(1, 0))), sends(takes(bal(1, 0), v, 1, 2, 3, 4)...))
	wantSends(t, "told again", b.tick(t), change(), takes(bal(1, 0), v, 0, 1, 2, 3, 4)...)
	nothing(t, "what a node tells itself", b.take(t, takeOf(m(0, 1), 2, bal(1, 0), v)))
	for _, n := range []int{2, 3} {
		nothing(t, "taken", b.take(t, takenOf(m(n, 1), 2, bal(1, 0))))
	}
	want(t, "a majority without it", b.take(t, takenOf(m(4, 1), 2, bal(1, 0))), api.Effects{Saves: []string{save(1, v, 0)}, Sends: installs(0, v, 1, 2, 3, 4)})
}

// P20.2: the last Round, behind which there is no other one: nothing is begun.
func TestLastRound(t *testing.T) {
	for _, c := range []struct {
		round int
		begun bool
	}{{great - 2, true}, {great - 1, true}, {great, false}} {
		for _, do := range []func(b *both){
			func(b *both) { b.take(t, prepareOf(m(1, 1), 2, bal(c.round, 1))) },
			func(b *both) { b.take(t, helloOf(m(1, 1), 1, bal(c.round, 1))) },
		} {
			b := bothOf(t, m(0, 1), 3)
			b.hear(t, m(1, 1))
			do(b)
			e := b.tick(t)
			var l []api.Send
			if c.begun {
				l = prepares(bal(c.round+1, 0), 1, 2)
			}
			wantSends(t, "the last rounds", e, change(), l...)
			if len(e.Saves) > 0 != c.begun {
				t.Errorf("%d: %s", c.round, shown(e))
			}
			b.ticks(t, 9)
		}
	}
	b := bothOf(t, m(0, 1), 2, save(1, value(of(great, m(0, 1))), 0)) // the last view: there is no next one
	b.hear(t, m(1, 1))
	want(t, "the last view", b.tick(t), sends(hellos(m(0, 1), 2, great, none)...))
}
