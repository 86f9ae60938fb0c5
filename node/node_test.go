package node_test

import (
	"slices"
	"testing"

	"carillon/api"
	"carillon/command"
	"carillon/node"
)

// want asks for effects, word by word.
func want(t *testing.T, what string, e, want api.Effects) {
	t.Helper()
	if !sameEffects(e, want) {
		t.Errorf("%s: %s\nwant %s", what, shown(e), shown(want))
	}
}

// nothing asks that nothing came of a call.
func nothing(t *testing.T, what string, e api.Effects) {
	t.Helper()
	want(t, what, e, api.Effects{})
}

// to is a message for a node.
func to(n int, x api.Message) api.Send { return api.Send{To: n, M: x} }

func sends(l ...api.Send) api.Effects { return api.Effects{Sends: l} }

// wantSends asks for the messages of some kinds that e has, leaving others aside.
func wantSends(t *testing.T, what string, e api.Effects, kinds []int, l ...api.Send) {
	t.Helper()
	some := slices.DeleteFunc(slices.Clone(e.Sends), func(x api.Send) bool { return !slices.Contains(kinds, x.M.Kind) })
	want(t, what, sends(some...), sends(l...))
}

// change are the kinds of messages that change a view.
func change() []int {
	return []int{api.MPrepare, api.MPromise, api.MRefuse, api.MTake, api.MTaken, api.MInstall}
}

// wantPropose asks for the code, and that nothing came of it where it is not ROK.
func wantPropose(t *testing.T, b *both, s string, want int) api.Effects {
	t.Helper()
	n, e := b.propose(t, s)
	if n != want {
		t.Errorf("Propose %s: %d; want %d", brief(s), n, want)
	}
	if n != api.ROK {
		nothing(t, "Propose "+brief(s), e)
	}
	return e
}

// wantState asks what a node tells of itself.
func wantState(t *testing.T, x *node.Node, v api.View, primary, first bool, sure int, log ...string) {
	t.Helper()
	if !sameView(x.View(), v) || x.Primary() != primary || x.First() != first || x.Sure() != sure || !slices.Equal(x.Log(), log) {
		t.Errorf("%v, Primary %v, First %v, Sure %d, %s; want %v, %v, %v, %d, %s", x.View(), x.Primary(), x.First(), x.Sure(), shownTexts(x.Log()), v, primary, first, sure, shownTexts(log))
	}
}

// P20.1, P20.5, P20.6: the chapter's examples, line by line.
func TestExamples(t *testing.T) {
	a := create(t, "a", 0)
	one := bothOf(t, m(0, 1), 1)
	if !one.x.Primary() || !one.x.First() {
		t.Error("one node: not primary, or not first")
	}
	want(t, "one node", wantPropose(t, one, a, api.ROK), api.Effects{Saves: []string{save(3, a, 0)}, Done: []api.Done{{Place: 0, Text: a, Reply: api.Reply{Code: api.ROK}}}})
	three := bothOf(t, m(0, 1), 3)
	if three.x.Primary() {
		t.Error("three nodes: primary")
	}
	wantPropose(t, three, a, api.RNotPrimary)
	if v := bothOf(t, m(0, 2), 3).x.View(); v.Number != 0 || len(v.Members) != 0 {
		t.Error(v)
	}
}

// P20.1: a node of Life 1 has the view 1 of all nodes, one of another life none; nobody was heard.
func TestBeginning(t *testing.T) {
	for nodes := 1; nodes <= api.MaxNodes; nodes++ {
		for n := range nodes {
			wantState(t, bothOf(t, m(n, 1), nodes).x, all(1, nodes), nodes == 1, n == 0, 0)
			for _, life := range []int{2, 3, great} {
				x := bothOf(t, m(n, life), nodes).x
				wantState(t, x, api.View{}, false, false, 0)
				if x.Machine() == nil || len(x.Machine().Wanted()) != nodes || x.Machine().Count() != 0 {
					t.Error("the machine of a node without a view")
				}
			}
		}
	}
}

// P20.1, P2: a self that is no right member, nodes that are too few or too many, a Node that is not below nodes.
func TestWrongNew(t *testing.T) {
	refused := func(self api.Member, nodes int) {
		t.Helper()
		for _, saved := range [][]string{nil, {save(1, value(all(2, 2)), 0)}} {
			if x, e := node.New(self, nodes, saved); x != nil || e != api.ErrArg {
				t.Errorf("New(%v, %d): %v, %d", self, nodes, x, e)
			}
		}
	}
	for _, nodes := range []int{0, -1, api.MaxNodes + 1, 1 << 40, -1 << 63, 1<<63 - 1} {
		refused(m(0, 1), nodes)
		refused(m(nodes-1, 1), nodes)
	}
	for nodes := 1; nodes <= api.MaxNodes; nodes++ {
		for _, n := range []int{-1, nodes, nodes + 1, api.MaxNodes, 255, -1 << 63, 1<<63 - 1} {
			refused(m(n, 1), nodes)
			refused(m(n, 2), nodes)
		}
		for _, life := range []int{0, -1, great + 1, -1 << 63, 1<<63 - 1} {
			refused(m(0, life), nodes)
			refused(m(nodes-1, life), nodes)
		}
		bothOf(t, m(nodes-1, 1), nodes)
		bothOf(t, m(nodes-1, great), nodes)
	}
}

// P20.1: the save of a view has it begin, if its Number is greater, self is of it, and all of its members are nodes.
func TestSavedViews(t *testing.T) {
	a, b := create(t, "a", 0), create(t, "b", 0)
	good := of(5, m(0, 1), m(1, 2), m(2, 1))
	for _, c := range []struct {
		self api.Member
		text string
		v    api.View
		log  []string
	}{
		{m(0, 1), value(good, a, b), good, []string{a, b}},
		{m(1, 2), value(good, a, b), good, []string{a, b}},
		{m(1, 2), value(of(1, m(1, 2)), a), of(1, m(1, 2)), []string{a}},
		{m(0, 1), value(of(great, m(0, 1)), a), of(great, m(0, 1)), []string{a}},
		{m(0, 1), value(of(2, m(0, 1)), "x", "", "x"), of(2, m(0, 1)), []string{"x", "", "x"}},
		{m(1, 1), value(good, a, b), all(1, 3), nil},              // another life
		{m(1, 3), value(good, a, b), api.View{}, nil},             // likewise
		{m(0, 1), value(of(5, m(1, 1)), a), all(1, 3), nil},       // not of it
		{m(0, 1), value(of(1, m(0, 1)), a), all(1, 3), nil},       // not greater
		{m(0, 1), value(all(2, 4), a), all(1, 3), nil},            // a member that is no node
		{m(0, 1), value(of(2, m(0, 1), m(6, 1))), all(1, 3), nil}, // likewise
		{m(0, 1), value(of(0, m(0, 1))), all(1, 3), nil},          // not right
		{m(0, 1), value(of(2, m(1, 1), m(0, 1))), all(1, 3), nil}, // likewise
		{m(0, 1), value(of(2)), all(1, 3), nil},                   // likewise
		{m(0, 1), "", all(1, 3), nil},
		{m(0, 1), value(good, a) + "x", all(1, 3), nil},
	} {
		x := bothOf(t, c.self, 3, save(1, c.text, 0))
		wantState(t, x.x, c.v, len(c.v.Members) == 1, c.v.Number > 0 && c.v.Members[0] == c.self, len(c.log), c.log...)
		if x.x.Machine().Count() != len(c.log) {
			t.Errorf("%d were done", x.x.Machine().Count())
		}
		no := bothOf(t, c.self, 3, save(1, c.text, 1)) // no save: it has no place
		wantState(t, no.x, newPlain(c.self, 3, nil).view, false, c.self == m(0, 1), 0)
	}
}

// P20.1: the save of an acceptor has it be the node's; a view that begins behind it has none.
func TestSavedAcceptors(t *testing.T) {
	hello := func(b *both) api.Ballot {
		t.Helper()
		return b.tick(t).Sends[0].M.Ballot
	}
	right := accepted(bal(3, 1), bal(2, 2), "v")
	next := save(1, value(of(2, m(0, 1), m(1, 1))), 0)
	for _, c := range []struct {
		saved []string
		want  api.Ballot
	}{
		{nil, none},
		{[]string{save(2, right, 0)}, bal(3, 1)},
		{[]string{save(2, accepted(bal(great, 6), none, ""), 0)}, bal(great, 6)},
		{[]string{save(2, right, 0), save(2, accepted(bal(4, 0), none, ""), 0)}, bal(4, 0)},
		{[]string{save(2, right, 0), save(2, accepted(bal(1, 0), none, ""), 0)}, bal(1, 0)}, // as it was saved last
		{[]string{save(2, right, 0), save(2, accepted(none, none, ""), 0)}, none},
		{[]string{save(2, right, 0), next}, none},
		{[]string{next, save(2, right, 0)}, bal(3, 1)},
		{[]string{save(2, right, 0), save(1, value(all(1, 3)), 0)}, bal(3, 1)},   // the view may not be
		{[]string{save(2, right, 1)}, none},                                      // no save: it has no place
		{[]string{save(2, accepted(bal(1, 1), bal(2, 2), "v"), 0)}, none},        // no right acceptor
		{[]string{save(2, accepted(bal(1, 1), none, "v"), 0)}, none},             // likewise
		{[]string{save(2, right+"x", 0)}, none},                                  // likewise
		{[]string{save(2, right[:len(right)-1], 0)}, none},                       // likewise
		{[]string{save(2, "", 0)}, none},                                         // likewise
		{[]string{save(2, right, 0), save(2, "", 0)}, bal(3, 1)},                 // likewise
		{[]string{save(2, right, 0), save(2, right[1:], 0), "", "x"}, bal(3, 1)}, // likewise
	} {
		b := bothOf(t, m(0, 1), 3, c.saved...)
		if got := hello(b); got != c.want {
			t.Errorf("%q: %v; want %v", c.saved, got, c.want)
		}
	}
	b := bothOf(t, m(0, 1), 3, save(2, right, 0))
	want(t, "what was taken", b.take(t, prepareOf(m(1, 1), 2, bal(9, 1))), api.Effects{
		Saves: []string{save(2, accepted(bal(9, 1), bal(2, 2), "v"), 0)},
		Sends: []api.Send{to(1, api.Message{Kind: api.MPromise, From: 0, Life: 1, View: 2, Ballot: bal(9, 1), Taken: bal(2, 2), Value: "v"})},
	})
	none := bothOf(t, m(1, 2), 3, save(2, right, 0)) // without a view, too
	if got := hello(none); got != bal(3, 1) {
		t.Error(got)
	}
}

// P20.1: the save of a text has it be the log's last one, if its place is how many the log has; of a node alone it is sure at once.
func TestSavedTexts(t *testing.T) {
	a, b, c := create(t, "a", 0), create(t, "b", 0), create(t, "c", 0)
	view2 := save(1, value(of(2, m(0, 1), m(1, 1)), a, b), 0)
	for _, x := range []struct {
		saved []string
		log   []string
	}{
		{[]string{save(3, a, 0)}, []string{a}},
		{[]string{save(3, a, 0), save(3, b, 1), save(3, b, 2)}, []string{a, b, b}},
		{[]string{save(3, a, 1)}, nil},
		{[]string{save(3, a, -1)}, nil},
		{[]string{save(3, a, 0), save(3, b, 0)}, []string{a}},
		{[]string{save(3, a, 0), save(3, b, 2), save(3, c, 1)}, []string{a, c}},
		{[]string{save(3, "", 0), save(3, "no command", 1)}, []string{"", "no command"}},
		{[]string{save(3, a, 0), view2, save(3, c, 1), save(3, c, 2)}, []string{a, b, c}},
		{[]string{view2, save(3, c, 2), save(1, value(of(3, m(0, 1), m(1, 1)), a), 0), save(3, b, 1)}, []string{a, b}},
		{[]string{save(3, times("x", 44996), 0), save(3, "", 1)}, []string{times("x", 44996)}}, // the log is full
		{[]string{save(3, times("x", 44997), 0), save(3, a, 0)}, []string{a}},                  // it does not fit
		{[]string{save(2, accepted(bal(1, 1), bal(1, 1), "v"), 0), save(3, a, 0)}, []string{a}},
	} {
		for n := range 2 {
			b := bothOf(t, m(n, 1), 2, x.saved...)
			if !slices.Equal(b.x.Log(), x.log) {
				t.Errorf("node %d: %s; want %s", n, shownTexts(b.x.Log()), shownTexts(x.log))
			}
		}
		bothOf(t, m(0, 2), 2, x.saved...)
		alone := bothOf(t, m(0, 1), 1, x.saved...)
		if alone.x.Sure() != len(alone.x.Log()) || alone.x.Machine().Count() != len(alone.x.Log()) {
			t.Errorf("alone: %d sure, %d done of %d", alone.x.Sure(), alone.x.Machine().Count(), len(alone.x.Log()))
		}
	}
}

// P20.1: what is no save is passed over: cut, longer, of other kinds, of other items.
func TestNoSaves(t *testing.T) {
	a := create(t, "a", 0)
	for _, s := range []string{save(1, value(of(2, m(0, 1)), a), 0), save(2, accepted(bal(3, 1), none, ""), 0), save(3, a, 0)} {
		wrong := []string{"", "x", s + "x", "\x00" + s, s + s, textOf(s), s[1:], byteOf(0) + s[1:], byteOf(4) + s[1:], byteOf(255) + s[1:], s[:len(s)-8], s[:1] + longOf(0) + s[1:len(s)-8]}
		for n := range s {
			wrong = append(wrong, s[:n])
		}
		for _, w := range wrong {
			b := bothOf(t, m(0, 1), 3, w)
			wantState(t, b.x, all(1, 3), false, true, 0)
			if e := b.tick(t); e.Sends[0].M.Ballot != none {
				t.Errorf("%q: %v", w, e.Sends[0].M.Ballot)
			}
			bothOf(t, m(0, 1), 3, w, s, w)
		}
	}
}

// P20.5: what is no command is malformed, also at a node that is not Primary.
func TestMalformed(t *testing.T) {
	a := create(t, "a", 0)
	for _, s := range standings(t) {
		for _, text := range []string{"", "x", a + "x", a[:len(a)-1], a[1:], textOf(a), create(t, "a", 0)[:1]} {
			wantPropose(t, s.make(), text, api.RMalformed)
		}
	}
}

// P20.5, P20.6: at the sequencer a command is saved, and done, when it is sure; what its log has is asked in vain, and answered well.
func TestProposeAtTheSequencer(t *testing.T) {
	a, b := create(t, "a", 0), create(t, "b", 0)
	x := bothOf(t, m(0, 1), 3)
	x.hear(t, m(1, 1))
	want(t, "the first", wantPropose(t, x, a, api.ROK), api.Effects{Saves: []string{save(3, a, 0)}})
	nothing(t, "again", wantPropose(t, x, a, api.ROK))
	want(t, "the second", wantPropose(t, x, b, api.ROK), api.Effects{Saves: []string{save(3, b, 1)}})
	want(t, "it is had", x.take(t, haveOf(m(2, 1), 1, 1)), api.Effects{Done: []api.Done{{Place: 0, Text: a, Reply: api.Reply{Code: api.ROK}}}})
	want(t, "both are", x.take(t, haveOf(m(1, 1), 1, 2)), api.Effects{Done: []api.Done{{Place: 1, Text: b, Reply: api.Reply{Code: api.ROK}}}})
	nothing(t, "again", wantPropose(t, x, a, api.ROK))
	wantState(t, x.x, all(1, 3), true, true, 2, a, b)
	nothing(t, "all have it", x.take(t, haveOf(m(2, 1), 1, 2)))
}

// P20.5: at others it goes to the sequencer; nothing is saved, nor in the log.
func TestProposeAtOthers(t *testing.T) {
	a := create(t, "a", 0)
	x := bothOf(t, m(2, 1), 3)
	x.hear(t, m(0, 1))
	for range 2 {
		want(t, "forward", wantPropose(t, x, a, api.ROK), sends(to(0, forwardOf(m(2, 1), a))))
	}
	wantState(t, x.x, all(1, 3), true, false, 0)
	x.take(t, beatOf(m(0, 1), 1, 0, 0, a))
	nothing(t, "its log has it", wantPropose(t, x, a, api.ROK))
	later := bothOf(t, m(3, 1), 4, save(1, value(of(7, m(1, 5), m(2, 1), m(3, 1)), create(t, "b", 0)), 0))
	later.hear(t, m(1, 5))
	want(t, "the sequencer", wantPropose(t, later, a, api.ROK), sends(to(1, forwardOf(m(3, 1), a))))
	nothing(t, "a text of the view's beginning", wantPropose(t, later, create(t, "b", 0), api.ROK))
}

// P20.5: a log that is full.
func TestFull(t *testing.T) {
	big := func(n, size int) string {
		return code(t, api.Command{Kind: api.CPublish, Topic: "a", Name: "p", Seq: n, Value: times("v", size)})
	}
	for _, nodes := range []int{1, 3} {
		x := bothOf(t, m(0, 1), nodes)
		if nodes > 1 {
			x.hear(t, m(2, 1))
		}
		used, n := 0, 0
		for ; used+len(big(n, 1000))+4 <= api.MaxLog; n++ {
			wantPropose(t, x, big(n, 1000), api.ROK)
			used += len(big(n, 1000)) + 4
		}
		left := api.MaxLog - used - len(big(n, 0)) - 4
		wantPropose(t, x, big(n, 1000), api.RFull)
		wantPropose(t, x, big(n, left+1), api.RFull)
		wantPropose(t, x, big(0, 1000), api.ROK) // its log has it
		wantPropose(t, x, big(n, left), api.ROK)
		wantPropose(t, x, create(t, "a", 0), api.RFull)
		wantPropose(t, x, "", api.RMalformed)
		if nodes > 1 {
			nothing(t, "a full log", x.take(t, forwardOf(m(2, 1), create(t, "b", 0))))
		}
	}
}

// P20.5, PRIMARY: who is no member, or flushes, or does not hear the sequencer or a majority, is not.
func TestPrimary(t *testing.T) {
	a := create(t, "a", 0)
	for _, c := range []struct {
		name  string
		self  api.Member
		nodes int
		heard []api.Member
		yes   bool
	}{
		{"the sequencer of three, that hears nobody", m(0, 1), 3, nil, false},
		{"the sequencer of three, that hears one", m(0, 1), 3, []api.Member{m(2, 1)}, true},
		{"the sequencer of three, that hears another life", m(0, 1), 3, []api.Member{m(2, 2)}, false},
		{"the sequencer of four, that hears one", m(0, 1), 4, []api.Member{m(2, 1)}, false},
		{"the sequencer of four, that hears two", m(0, 1), 4, []api.Member{m(2, 1), m(1, 1)}, true},
		{"the sequencer of seven, that hears three", m(0, 1), 7, []api.Member{m(2, 1), m(6, 1), m(3, 1)}, true},
		{"the sequencer of seven, that hears two", m(0, 1), 7, []api.Member{m(2, 1), m(6, 1), m(3, 2)}, false},
		{"one that hears the sequencer", m(1, 1), 3, []api.Member{m(0, 1)}, true},
		{"one that hears the others", m(1, 1), 4, []api.Member{m(2, 1), m(3, 1)}, false},
		{"one that hears the sequencer's next life, and others", m(1, 1), 4, []api.Member{m(0, 1), m(2, 1), m(3, 1), m(0, 2)}, false},
		{"without a view", m(1, 2), 3, []api.Member{m(0, 1), m(2, 1)}, false},
		{"of two", m(1, 1), 2, []api.Member{m(0, 1)}, true},
		{"of two, alone", m(0, 1), 2, nil, false},
	} {
		b := bothOf(t, c.self, c.nodes)
		b.hear(t, c.heard...)
		if b.x.Primary() != c.yes {
			t.Errorf("%s: %v", c.name, !c.yes)
		}
		code := api.RNotPrimary
		if c.yes {
			code = api.ROK
		}
		wantPropose(t, b, a, code)
		if !c.yes {
			continue
		}
		flushing := bothOf(t, c.self, c.nodes)
		flushing.hear(t, c.heard...)
		flushing.take(t, prepareOf(c.heard[0], 2, bal(1, 2)))
		wantPropose(t, flushing, a, api.RNotPrimary)
	}
}

// P20.5, PRIMARY: who heard all of the others is Primary for four ticks more.
func TestPrimaryForFourTicks(t *testing.T) {
	for nodes := 2; nodes <= api.MaxNodes; nodes++ {
		for n := range nodes {
			b := bothOf(t, m(n, 1), nodes)
			for range 3 {
				b.hear(t, all(1, nodes).Members...)
				for range 4 {
					b.tick(t)
					if !b.x.Primary() {
						t.Errorf("node %d of %d is not Primary", n, nodes)
					}
				}
			}
			b.tick(t)
			if b.x.Primary() {
				t.Errorf("node %d of %d is Primary behind five ticks", n, nodes)
			}
		}
	}
}

// P20.6: First, View, Log, Sure of nodes in views that are not the first one.
func TestLaterViews(t *testing.T) {
	a := create(t, "a", 0)
	v := of(4, m(1, 3), m(2, 1), m(4, 2))
	for n, self := range v.Members {
		x := bothOf(t, self, 5, save(1, value(v, a, "x"), 0))
		wantState(t, x.x, v, false, n == 0, 2, a, "x")
		if x.x.Machine().Count() != 2 || len(x.x.Machine().Topics()) != 1 {
			t.Error("the machine")
		}
	}
}

// P20.6: what is done is told once, in order, with what the machine answers.
func TestDone(t *testing.T) {
	x := bothOf(t, m(1, 1), 2)
	a, p, s := create(t, "a", 0), code(t, api.Command{Kind: api.CPublish, Topic: "a", Name: "p", Seq: 3, Value: "v"}), code(t, api.Command{Kind: api.CSubscribe, Topic: "a", Name: "s"})
	poll := code(t, api.Command{Kind: api.CPoll, Name: "s", N: 5})
	x.hear(t, m(0, 1))
	e := x.take(t, beatOf(m(0, 1), 1, 0, 2, a, "x", p, s))
	want(t, "two of four", e, api.Effects{
		Saves: []string{save(3, a, 0), save(3, "x", 1), save(3, p, 2), save(3, s, 3)},
		Sends: []api.Send{to(0, haveOf(m(1, 1), 1, 4))},
		Done:  []api.Done{{Place: 0, Text: a}, {Place: 1, Text: "x", Reply: api.Reply{Code: api.RMalformed}}},
	})
	want(t, "the others", x.take(t, beatOf(m(0, 1), 1, 4, 9, poll, a)), api.Effects{
		Saves: []string{save(3, poll, 4), save(3, a, 5)},
		Sends: []api.Send{to(0, haveOf(m(1, 1), 1, 6))},
		Done: []api.Done{{Place: 2, Text: p}, {Place: 3, Text: s}, {Place: 4, Text: poll, Reply: api.Reply{N: 1, Records: []api.Record{{Producer: "p", Seq: 3, Value: "v"}}}},
			{Place: 5, Text: a, Reply: api.Reply{Code: api.RExists}}},
	})
	want(t, "all was done", x.take(t, beatOf(m(0, 1), 1, 6, 6)), sends(to(0, haveOf(m(1, 1), 1, 6))))
	want(t, "a view that has more", x.take(t, installOf(m(0, 1), value(of(2, m(1, 1)), a, "x", p, s, poll, a, "y"))), api.Effects{
		Saves: []string{save(1, value(of(2, m(1, 1)), a, "x", p, s, poll, a, "y"), 0)},
		Done:  []api.Done{{Place: 6, Text: "y", Reply: api.Reply{Code: api.RMalformed}}},
	})
	want(t, "a view that has less", x.take(t, installOf(m(0, 1), value(of(3, m(1, 1)), a))), api.Effects{Saves: []string{save(1, value(of(3, m(1, 1)), a), 0)}})
	want(t, "a text where others were done", wantPropose(t, x, s, api.ROK), api.Effects{Saves: []string{save(3, s, 1)}})
	if n := x.x.Machine().Count(); n != 7 {
		t.Error(n)
	}
	if _, e := command.Decode(poll); e != api.OK {
		t.Error(e)
	}
}

// P20.6, P3: the machine that is told is the node's own; what else is done with it keeps nothing sure from being done.
func TestMachine(t *testing.T) {
	x, _ := node.New(m(0, 1), 1, nil)
	x.Machine().Apply(create(t, "b", 0))
	a := create(t, "a", 0)
	code, e := x.Propose(a)
	if code != api.ROK || x.Machine().Count() != 2 {
		t.Error(code, x.Machine().Count())
	}
	want(t, "Propose", e, api.Effects{Saves: []string{save(3, a, 0)}, Done: []api.Done{{Place: 0, Text: a}}})
	if l := x.Machine().Topics(); !slices.Equal(l, []string{"a", "b"}) {
		t.Error(l)
	}
}
