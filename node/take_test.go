package node_test

import (
	"testing"

	"carillon/api"
)

// P20.4: MHello: who is behind, and of this view, is told how it begins; others are told nothing.
func TestTakeHello(t *testing.T) {
	v := of(5, m(0, 1), m(1, 2), m(2, 1))
	text := value(v, create(t, "a", 0))
	begun := func() *both { return bothOf(t, m(2, 1), 4, save(1, text, 0)) }
	for _, c := range []struct {
		name string
		x    api.Message
		told bool
	}{
		{"none", helloOf(m(1, 2), 0, none), true},
		{"the first", helloOf(m(0, 1), 1, none), true},
		{"the one ahead", helloOf(m(0, 1), 4, bal(3, 1)), true},
		{"this one", helloOf(m(0, 1), 5, none), false},
		{"this one, with a promise", helloOf(m(0, 1), 5, bal(3, 1)), false},
		{"a later one", helloOf(m(0, 1), 6, none), false},
		{"the last one", helloOf(m(0, 1), great, none), false},
		{"one that is none", helloOf(m(3, 1), 4, none), false},
		{"an elder life", helloOf(m(1, 1), 4, none), false},
		{"a later life", helloOf(m(1, 3), 4, none), false},
	} {
		var l []api.Send
		if c.told {
			l = installs(2, text, c.x.From)
		}
		want(t, c.name, begun().take(t, c.x), sends(l...))
	}
	first := bothOf(t, m(0, 1), 3)
	want(t, "the view that all begin with", first.take(t, helloOf(m(2, 1), 0, none)), sends(installs(0, value(all(1, 3)), 2)...))
	nothing(t, "without a view", bothOf(t, m(1, 2), 3).take(t, helloOf(m(0, 1), 0, none)))
}

// P20.4: MBeat: texts that fit are added and saved, one behind the other; what is sure is learnt; how many there are is told.
func TestTakeBeat(t *testing.T) {
	have := func(n int) []api.Send { return []api.Send{to(0, haveOf(m(1, 1), 1, n))} }
	for _, c := range []struct {
		name  string
		x     api.Message
		saves []string
		n     int
		sure  int
	}{
		{"nothing", beatOf(m(0, 1), 1, 0, 0), nil, 2, 0},
		{"nothing, at its end", beatOf(m(0, 1), 1, 2, 0), nil, 2, 0},
		{"nothing, far behind", beatOf(m(0, 1), 1, great, 0), nil, 2, 0},
		{"one", beatOf(m(0, 1), 1, 2, 0, "c"), []string{save(3, "c", 2)}, 3, 0},
		{"one of nothing", beatOf(m(0, 1), 1, 2, 0, ""), []string{save(3, "", 2)}, 3, 0},
		{"several", beatOf(m(0, 1), 1, 2, 0, "c", "c", "d", "e", "f"), []string{save(3, "c", 2), save(3, "c", 3), save(3, "d", 4), save(3, "e", 5), save(3, "f", 6)}, 7, 0},
		{"some that are there", beatOf(m(0, 1), 1, 0, 0, "a", "b", "c", "d"), []string{save(3, "c", 2), save(3, "d", 3)}, 4, 0},
		{"some that are there, as others", beatOf(m(0, 1), 1, 1, 0, "x", "c"), []string{save(3, "c", 2)}, 3, 0},
		{"all are there", beatOf(m(0, 1), 1, 0, 0, "a", "b"), nil, 2, 0},
		{"a gap", beatOf(m(0, 1), 1, 3, 0, "c"), nil, 2, 0},
		{"a great gap", beatOf(m(0, 1), 1, great, 0, "c", "d"), nil, 2, 0},
		{"one is sure", beatOf(m(0, 1), 1, 2, 1), nil, 2, 1},
		{"all are", beatOf(m(0, 1), 1, 2, 3, "c"), []string{save(3, "c", 2)}, 3, 3},
		{"more are than there are", beatOf(m(0, 1), 1, 2, great, "c"), []string{save(3, "c", 2)}, 3, 3},
		{"one that does not fit", beatOf(m(0, 1), 1, 2, 0, times("x", api.MaxLog), "c"), nil, 2, 0},
		{"the longest that fits, and no more", beatOf(m(0, 1), 1, 2, 0, times("x", api.MaxLog-14), ""), []string{save(3, times("x", api.MaxLog-14), 2)}, 3, 0},
	} {
		b := bothOf(t, m(1, 1), 3, save(3, "a", 0), save(3, "b", 1))
		e := b.take(t, c.x)
		want(t, c.name, api.Effects{Saves: e.Saves, Sends: e.Sends}, api.Effects{Saves: c.saves, Sends: have(c.n)})
		if len(e.Done) != c.sure || b.x.Sure() != c.sure || len(b.x.Log()) != c.n {
			t.Errorf("%s: %d done, %d sure, %d in all", c.name, len(e.Done), b.x.Sure(), len(b.x.Log()))
		}
	}
	for name, b := range map[string]*both{
		"the sequencer":                   bothOf(t, m(0, 1), 3),
		"flushing":                        bothOf(t, m(1, 1), 3, save(2, accepted(bal(1, 0), none, ""), 0)),
		"another view":                    bothOf(t, m(1, 1), 3, save(1, value(all(2, 3)), 0)),
		"of a view that the sender is of": bothOf(t, m(1, 1), 3, save(1, value(of(2, m(1, 1), m(2, 1))), 0)),
		"without a view":                  bothOf(t, m(1, 2), 3),
	} {
		for _, from := range []api.Member{m(0, 1), m(2, 1)} {
			nothing(t, name, b.take(t, beatOf(from, 1, 0, 1, "a")))
		}
	}
	for _, from := range []api.Member{m(2, 1), m(0, 2)} {
		nothing(t, "not its sequencer", bothOf(t, m(1, 1), 3).take(t, beatOf(from, 1, 0, 1, "a")))
	}
	nothing(t, "no view, of the Number 0", bothOf(t, m(1, 2), 3).take(t, beatOf(m(0, 1), 0, 0, 1, "a")))
}

// P20.4: MHave: what more than half have is sure, at the sequencer, also one that flushes.
func TestTakeHave(t *testing.T) {
	done := func(n int) []api.Done {
		return []api.Done{{Place: n, Text: "x", Reply: api.Reply{Code: api.RMalformed}}}
	}
	for _, saved := range [][]string{nil, {save(2, accepted(bal(1, 0), none, ""), 0)}} {
		b := bothOf(t, m(0, 1), 5, append(saved, save(3, "x", 0), save(3, "x", 1))...)
		nothing(t, "two of five", b.take(t, haveOf(m(4, 1), 1, 2)))
		nothing(t, "the same one again", b.take(t, haveOf(m(4, 1), 1, 2)))
		nothing(t, "another view", b.take(t, haveOf(m(3, 1), 2, 2)))
		nothing(t, "another life", b.take(t, haveOf(m(3, 2), 1, 2)))
		nothing(t, "an elder one", b.take(t, haveOf(m(3, 1), 1, 2)))
		nothing(t, "more than there are", b.take(t, haveOf(m(2, 1), 1, 3)))
		want(t, "one, of three", b.take(t, haveOf(m(2, 1), 1, 1)), api.Effects{Done: done(0)})
		nothing(t, "none, of another one", b.take(t, haveOf(m(1, 1), 1, 0)))
		want(t, "both, of three", b.take(t, haveOf(m(1, 1), 1, 2)), api.Effects{Done: done(1)})
		wantState(t, b.x, all(1, 5), len(saved) == 0, true, 2, "x", "x")
	}
	other := bothOf(t, m(1, 1), 3, save(3, "x", 0))
	nothing(t, "not the sequencer", other.take(t, haveOf(m(0, 1), 1, 1)))
	nothing(t, "not the sequencer", other.take(t, haveOf(m(2, 1), 1, 1)))
	nothing(t, "without a view", bothOf(t, m(0, 2), 3).take(t, haveOf(m(2, 1), 0, 0)))
}

// P20.4: MPrepare and MTake of the next view: what the acceptor does is saved and answered, with all that it has, or refused with what is promised.
func TestTakePrepareAndTake(t *testing.T) {
	b := bothOf(t, m(2, 1), 3, save(3, "x", 0), save(3, "", 1))
	promise := func(o, taken api.Ballot, v string) api.Message {
		x := promiseOf(m(2, 1), 2, o, "x", "")
		x.Taken, x.Value = taken, v
		return x
	}
	refuse := func(n int, o api.Ballot) api.Effects { return sends(to(n, refuseOf(m(2, 1), 2, o))) }
	want(t, "no ballot", b.take(t, prepareOf(m(0, 1), 2, none)), refuse(0, none))
	want(t, "no ballot to take", b.take(t, takeOf(m(0, 1), 2, none, "v")), refuse(0, none))
	want(t, "the first", b.take(t, prepareOf(m(0, 1), 2, bal(2, 0))), api.Effects{
		Saves: []string{save(2, accepted(bal(2, 0), none, ""), 0)},
		Sends: []api.Send{to(0, promise(bal(2, 0), none, ""))},
	})
	want(t, "again", b.take(t, prepareOf(m(0, 1), 2, bal(2, 0))), api.Effects{
		Saves: []string{save(2, accepted(bal(2, 0), none, ""), 0)},
		Sends: []api.Send{to(0, promise(bal(2, 0), none, ""))},
	})
	want(t, "a lesser one", b.take(t, prepareOf(m(1, 1), 2, bal(1, 1))), refuse(1, bal(2, 0)))
	want(t, "a lesser one to take", b.take(t, takeOf(m(1, 1), 2, bal(1, 1), "v")), refuse(1, bal(2, 0)))
	want(t, "its own to take", b.take(t, takeOf(m(0, 1), 2, bal(2, 0), "v")), api.Effects{
		Saves: []string{save(2, accepted(bal(2, 0), bal(2, 0), "v"), 0)},
		Sends: []api.Send{to(0, takenOf(m(2, 1), 2, bal(2, 0)))},
	})
	want(t, "another value", b.take(t, takeOf(m(0, 1), 2, bal(2, 0), "w")), refuse(0, bal(2, 0)))
	want(t, "the ballot of another one, who asks for it", b.take(t, prepareOf(m(0, 1), 2, bal(2, 1))), api.Effects{
		Saves: []string{save(2, accepted(bal(2, 1), bal(2, 0), "v"), 0)},
		Sends: []api.Send{to(0, promise(bal(2, 1), bal(2, 0), "v"))},
	})
	want(t, "what was taken, too late", b.take(t, takeOf(m(0, 1), 2, bal(2, 0), "v")), refuse(0, bal(2, 1)))
	want(t, "a greater one to take", b.take(t, takeOf(m(1, 1), 2, bal(3, 1), "w")), api.Effects{
		Saves: []string{save(2, accepted(bal(3, 1), bal(3, 1), "w"), 0)},
		Sends: []api.Send{to(1, takenOf(m(2, 1), 2, bal(3, 1)))},
	})
	for _, from := range []api.Member{m(0, 2), m(1, 9)} {
		nothing(t, "one that is none", b.take(t, prepareOf(from, 2, bal(9, 1))))
		nothing(t, "one that is none", b.take(t, takeOf(from, 2, bal(9, 1), "v")))
		nothing(t, "one that is none, of this view", b.take(t, prepareOf(from, 1, bal(9, 1))))
	}
	again := bothOf(t, m(2, 1), 3, b.saves...)
	want(t, "when it begins again", again.take(t, prepareOf(m(0, 1), 2, bal(4, 0))), api.Effects{
		Saves: []string{save(2, accepted(bal(4, 0), bal(3, 1), "w"), 0)},
		Sends: []api.Send{to(0, promise(bal(4, 0), bal(3, 1), "w"))},
	})
}

// P20.4: MPrepare and MTake of this view, and of elder ones: how it begins; of later ones than the next: nothing.
func TestTakePrepareOfAnotherView(t *testing.T) {
	text := value(of(5, m(0, 1), m(1, 2), m(2, 1)), "x")
	for number := range 9 {
		for _, make := range []func() api.Message{
			func() api.Message { return prepareOf(m(1, 2), number, bal(3, 1)) },
			func() api.Message { return takeOf(m(1, 2), number, bal(3, 1), "v") },
		} {
			b := bothOf(t, m(2, 1), 4, save(1, text, 0))
			e := b.take(t, make())
			switch {
			case number <= 5:
				want(t, "behind", e, sends(installs(2, text, 1)...))
			case number > 6:
				nothing(t, "ahead", e)
			case len(e.Saves) != 1 || len(e.Sends) != 1:
				t.Error(shown(e))
			}
		}
	}
	b := bothOf(t, m(2, 1), 3, save(1, value(of(great, m(0, 1), m(2, 1))), 0))
	want(t, "the last view", b.take(t, prepareOf(m(0, 1), great, bal(3, 1))), sends(installs(2, value(of(great, m(0, 1), m(2, 1))), 0)...))
	none := bothOf(t, m(2, 2), 3)
	nothing(t, "without a view", none.take(t, prepareOf(m(0, 1), 1, bal(3, 1))))
	nothing(t, "without a view", none.take(t, takeOf(m(0, 1), 0, bal(3, 1), "v")))
}

// P20.4: what is too long to be saved is not taken: what is answered must last.
func TestTakeWhatCannotLast(t *testing.T) {
	most := api.MaxText - len(accepted(none, none, ""))
	for size := most - 1; size <= api.MaxText; size += 1 + (size-most+1)*4 {
		b := bothOf(t, m(2, 1), 3)
		v := times("v", min(size, api.MaxText))
		e := b.take(t, takeOf(m(0, 1), 2, bal(1, 0), v))
		if len(v) <= most {
			want(t, "it fits", e, api.Effects{Saves: []string{save(2, accepted(bal(1, 0), bal(1, 0), v), 0)}, Sends: []api.Send{to(0, takenOf(m(2, 1), 2, bal(1, 0)))}})
			continue
		}
		want(t, "it does not", e, sends(to(0, refuseOf(m(2, 1), 2, none))))
		want(t, "nothing is promised", b.take(t, takeOf(m(0, 1), 2, bal(1, 0), "w")), api.Effects{Saves: []string{save(2, accepted(bal(1, 0), bal(1, 0), "w"), 0)}, Sends: []api.Send{to(0, takenOf(m(2, 1), 2, bal(1, 0)))}})
	}
	b := asking(t)
	for n := 1; n <= 2; n++ {
		x := promiseOf(m(n, 1), 2, bal(1, 0))
		x.Taken, x.Value = bal(1, 0), times("v", api.MaxText)
		if e := b.take(t, x); len(e.Saves) > 0 || len(e.Sends) != 4*(n-1) {
			t.Error(shown(e))
		}
	}
}

// P20.4: MPromise, MTaken and MRefuse are for who has a proposal; a greater ballot that refused it is known for the next one.
func TestTakeRefuse(t *testing.T) {
	for _, c := range []struct {
		name string
		x    api.Message
		next int // the Round of the proposal of the next tick; 0: the first one goes on
	}{
		{"a greater one", refuseOf(m(1, 1), 2, bal(6, 1)), 7},
		{"the same Round", refuseOf(m(1, 1), 2, bal(1, 1)), 2},
		{"of one that is not alive", refuseOf(m(4, 1), 2, bal(2, 3)), 3},
		{"the proposal's", refuseOf(m(1, 1), 2, bal(1, 0)), 0},
		{"none", refuseOf(m(1, 1), 2, none), 0},
		{"another view", refuseOf(m(1, 1), 3, bal(6, 1)), 0},
		{"this view", refuseOf(m(1, 1), 1, bal(6, 1)), 0},
		{"another life", refuseOf(m(3, 2), 2, bal(6, 1)), 0},
		{"the last Round but one", refuseOf(m(1, 1), 2, bal(great-1, 1)), great},
	} {
		b := asking(t)
		nothing(t, c.name, b.take(t, c.x))
		round := max(c.next, 1)
		wantSends(t, c.name, b.tick(t), change(), prepares(bal(round, 0), 1, 2, 3, 4)...)
		if c.next == 0 {
			continue
		}
		nothing(t, "one to the proposal that was dropped", b.take(t, promiseOf(m(2, 1), 2, bal(1, 0))))
		nothing(t, "a lesser one", b.take(t, refuseOf(m(2, 1), 2, bal(1, 6))))
		wantSends(t, "it goes on", b.tick(t), change(), prepares(bal(round, 0), 1, 2, 3, 4)...)
	}
	b := bothOf(t, m(0, 1), 5)
	nothing(t, "without a proposal nothing is known", b.take(t, refuseOf(m(1, 1), 2, bal(6, 1))))
	b.hear(t, m(2, 1))
	wantSends(t, "the first", b.tick(t), change(), prepares(bal(1, 0), 1, 2, 3, 4)...)
	told := asking(t)
	told.take(t, promiseOf(m(1, 1), 2, bal(1, 0)))
	told.take(t, promiseOf(m(2, 1), 2, bal(1, 0)))
	nothing(t, "one that tells", told.take(t, refuseOf(m(1, 1), 2, bal(2, 1))))
	nothing(t, "it is dropped", told.take(t, takenOf(m(1, 1), 2, bal(1, 0))))
	wantSends(t, "the next one", told.tick(t), change(), prepares(bal(3, 0), 1, 2, 3, 4)...)
}

// P20.2: what is known of a view, of refusals and MHellos, and a proposal of it, is forgotten with the next one.
func TestForgotten(t *testing.T) {
	v := value(of(2, m(0, 1), m(1, 1), m(2, 1), m(4, 1)))
	b := asking(t)
	b.take(t, refuseOf(m(1, 1), 2, bal(6, 1)))
	b.take(t, helloOf(m(2, 1), 1, bal(8, 1)))
	b.tick(t)
	want(t, "the next view", b.take(t, installOf(m(3, 1), v)), api.Effects{Saves: []string{save(1, v, 0)}})
	nothing(t, "a promise of the proposal that was", b.take(t, promiseOf(m(1, 1), 2, bal(9, 0))))
	b.hear(t, m(1, 1), m(2, 1), m(4, 1))
	wantSends(t, "a change, as node 3 is alive", b.tick(t), change(), to(1, prepareOf(m(0, 1), 3, bal(1, 0))), to(2, prepareOf(m(0, 1), 3, bal(1, 0))), to(4, prepareOf(m(0, 1), 3, bal(1, 0))))
}

// P20.4: MInstall: what may be is installed and saved, whoever says it.
func TestTakeInstall(t *testing.T) {
	good := of(4, m(0, 1), m(1, 2), m(2, 1))
	for _, c := range []struct {
		self api.Member
		text string
		v    api.View // of the Number 0: it may not be
	}{
		{m(2, 1), value(good, "x"), good},
		{m(1, 2), value(good, "x"), good},
		{m(2, 1), value(all(3, 3), "x"), all(3, 3)},
		{m(2, 1), value(of(great, m(2, 1)), "x"), of(great, m(2, 1))},
		{m(1, 1), value(good, "x"), api.View{}},
		{m(2, 1), value(all(2, 3), "x"), api.View{}}, // it has this one
		{m(2, 1), value(all(1, 3), "x"), api.View{}},
		{m(2, 1), value(all(3, 5), "x"), api.View{}}, // a member that is no node
		{m(2, 1), value(of(3, m(0, 1), m(1, 1)), "x"), api.View{}},
		{m(2, 1), value(of(3, m(2, 1), m(0, 1)), "x"), api.View{}},
		{m(2, 1), "", api.View{}},
		{m(2, 1), "x", api.View{}},
		{m(2, 1), value(good, "x") + "x", api.View{}},
		{m(2, 1), value(good, make([]string, 991)...), api.View{}},
	} {
		for _, from := range []api.Member{m(0, 1), m(3, 7)} {
			b := bothOf(t, c.self, 4, save(1, value(all(2, 3), "x"), 0))
			e := b.take(t, installOf(from, c.text))
			if c.v.Number == 0 {
				nothing(t, brief(c.text), e)
				continue
			}
			want(t, brief(c.text), api.Effects{Saves: e.Saves, Sends: e.Sends}, api.Effects{Saves: []string{save(1, c.text, 0)}})
			wantState(t, b.x, c.v, b.p.primary(), c.v.Members[0] == c.self, 1, "x")
			nothing(t, "again", b.take(t, installOf(from, c.text)))
		}
	}
	flushing := bothOf(t, m(2, 1), 3)
	flushing.hear(t, m(0, 1), m(1, 1))
	flushing.take(t, prepareOf(m(0, 1), 2, bal(1, 0)))
	flushing.take(t, installOf(m(0, 1), value(all(2, 3))))
	if !flushing.x.Primary() {
		t.Error("it still flushes")
	}
}

// P20.4: MForward: at the sequencer, if it is Primary, and the sender a member; of one text alone.
func TestTakeForward(t *testing.T) {
	a, c := create(t, "a", 0), create(t, "c", 0)
	primary := func() *both {
		b := bothOf(t, m(0, 1), 3, save(1, value(of(2, m(0, 1), m(1, 1), m(2, 1)), c), 0))
		b.hear(t, m(1, 1), m(2, 1))
		return b
	}
	want(t, "it is proposed", primary().take(t, forwardOf(m(2, 1), a)), api.Effects{Saves: []string{save(3, a, 1)}})
	for _, x := range []api.Message{forwardOf(m(2, 1)), forwardOf(m(2, 1), a, a), forwardOf(m(2, 1), ""), forwardOf(m(2, 1), "x"), forwardOf(m(2, 1), c), forwardOf(m(2, 1), a+"x"), forwardOf(m(2, 2), a)} {
		b := primary()
		nothing(t, shownMessage(x), b.take(t, x))
		wantState(t, b.x, all(2, 3), true, true, 1, c)
	}
	b := primary()
	b.take(t, forwardOf(m(1, 1), a))
	nothing(t, "again", b.take(t, forwardOf(m(2, 1), a)))
	nothing(t, "alone", bothOf(t, m(0, 1), 5).take(t, forwardOf(m(2, 1), a)))
	flushing := primary()
	flushing.take(t, prepareOf(m(1, 1), 3, bal(1, 1)))
	nothing(t, "flushing", flushing.take(t, forwardOf(m(2, 1), a)))
	other := bothOf(t, m(1, 1), 3)
	other.hear(t, m(0, 1), m(2, 1))
	nothing(t, "not the sequencer", other.take(t, forwardOf(m(2, 1), a)))
	apart := bothOf(t, m(0, 1), 3, save(1, value(of(2, m(0, 1), m(1, 1))), 0))
	apart.hear(t, m(1, 1))
	nothing(t, "one that is none", apart.take(t, forwardOf(m(2, 1), a)))
	nothing(t, "without a view", bothOf(t, m(0, 2), 3).take(t, forwardOf(m(2, 1), a)))
}
