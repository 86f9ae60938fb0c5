package node_test

import (
	"slices"
	"testing"

	"carillon/api"
)

// maker makes up messages and saves, of which most fit the node that they are for, and some nothing at all.
type maker struct {
	t    testing.TB
	next func(int) int
	b    *both
}

func (k *maker) one(of ...int) int { return of[k.next(len(of))] }

func (k *maker) rarely() bool { return k.next(60) == 0 }

// command tells one of few, so that some come twice.
func (k *maker) command() string {
	switch k.next(12) {
	case 0:
		return "no command"
	case 1:
		return ""
	case 2:
		return code(k.t, api.Command{Kind: api.CJoin + k.next(2), N: k.next(api.MaxNodes), Ask: k.next(3)})
	case 3:
		return code(k.t, api.Command{Kind: api.CPublish, Topic: "a", Name: "p", Seq: k.next(9), Value: times("v", k.next(2)*1000), Ask: k.next(20)})
	default:
		return create(k.t, string(rune('a'+k.next(3))), k.next(6))
	}
}

func (k *maker) ballot() api.Ballot {
	p := k.b.p
	switch k.next(7) {
	case 0:
		return none
	case 1:
		return p.acceptor.Promised
	case 2:
		return bal(p.acceptor.Promised.Round+1, k.next(api.MaxNodes))
	case 3:
		return bal(1+k.next(4), k.next(api.MaxNodes))
	case 4:
		if k.next(25) == 0 {
			return bal(great-k.next(2), k.next(api.MaxNodes))
		}
		return p.acceptor.Taken
	default:
		if p.own != nil {
			return p.own.ballot
		}
		return bal(1, 0)
	}
}

// member tells one of the view, most often, of the node that sends.
func (k *maker) member() api.Member {
	p := k.b.p
	if len(p.view.Members) > 0 && k.next(4) > 0 {
		return p.view.Members[k.next(len(p.view.Members))]
	}
	if k.rarely() {
		return m(k.next(9)-1, k.one(0, great, great+1, -1))
	}
	return m(k.next(p.nodes), k.one(1, 1, 1, 1, 2, 3))
}

// log is a beginning of what the node has, or more, or another one.
func (k *maker) log() []string {
	l := slices.Clone(k.b.p.log)
	if k.next(3) > 0 {
		l = l[:k.next(len(l)+1)]
	}
	for range k.one(0, 0, 1, 2) {
		l = append(l, k.command())
	}
	if k.next(30) == 0 {
		l = slices.Repeat([]string{""}, k.one(900, 979, 980, 981, 990, 991))
	}
	return l
}

func (k *maker) value() string {
	p := k.b.p
	switch k.next(16) {
	case 0:
		return ""
	case 1:
		return times("x", k.one(1, 20, api.MaxText-23, api.MaxText-22, api.MaxText-21, api.MaxText, api.MaxText+1))
	case 2, 3:
		return p.value
	case 4, 5:
		return p.acceptor.Value
	}
	v := of(p.view.Number + k.one(0, 1, 1, 1, 1, 2, -1))
	for n := range api.MaxNodes {
		if n < p.nodes && (n == p.self.Node && k.next(8) > 0 || k.next(3) > 0) || k.rarely() {
			life := k.one(1, 1, 1, 2)
			if n == p.self.Node {
				life = p.self.Life
			}
			v.Members = append(v.Members, m(n, life))
		}
	}
	return value(v, k.log()...)
}

func (k *maker) message() api.Message {
	p := k.b.p
	from := k.member()
	x := api.Message{Kind: 1 + k.next(10), From: from.Node, Life: from.Life, View: p.view.Number + k.one(0, 0, 0, 1, 1, 1, 1, -1, 2)}
	x.Ballot = k.ballot()
	switch x.Kind {
	case api.MBeat:
		x.N, x.Sure = max(0, len(p.log)+k.one(0, 0, 0, 1, -1, -2)), max(0, len(p.log)+k.one(0, 1, 2, -1))
		for range k.next(5) {
			x.Texts = append(x.Texts, k.command())
		}
	case api.MHave:
		x.N = max(0, len(p.log)+k.one(0, 0, 0, 1, -1, -2))
	case api.MPromise:
		x.Texts = k.log()
		if k.next(3) == 0 {
			x.Taken, x.Value = k.ballot(), k.value()
		}
	case api.MTake, api.MInstall:
		x.Value = k.value()
	case api.MForward:
		for range k.one(0, 1, 1, 1, 1, 2) {
			x.Texts = append(x.Texts, k.command())
		}
	}
	k.spoil(&x)
	return x
}

// spoil has a message, now and then, have what is of another kind, or of none.
func (k *maker) spoil(x *api.Message) {
	if k.rarely() {
		x.Kind = k.one(0, 11, -1)
	}
	if k.rarely() {
		x.View = k.one(0, -1, great, great+1)
	}
	if k.rarely() {
		x.N, x.Sure = k.one(0, -1, great, great+1), k.one(0, -1, great, great+1)
	}
	if k.rarely() {
		x.Taken, x.Value = k.ballot(), k.value()
	}
	if k.rarely() {
		x.Texts = k.log()
	}
}

// save is one that fits, most often.
func (k *maker) save() string {
	p := k.b.p
	s := ""
	switch k.next(4) {
	case 0:
		s = save(1, k.value(), k.next(12)/11)
	case 1:
		taken := k.ballot()
		promised := taken
		if k.next(2) == 0 {
			promised = k.ballot()
		}
		s = save(2, accepted(promised, taken, k.value()), k.next(12)/11)
	default:
		s = save(3, k.command(), len(p.log)+k.one(0, 0, 0, 0, 0, 1, -1, 2))
	}
	switch {
	case k.rarely():
		return s[:k.next(len(s))]
	case k.rarely():
		return s + "x"
	case k.rarely():
		return byteOf(k.one(0, 4, 255)) + s[1:]
	}
	return s
}

// step does one thing at the node.
func (k *maker) step() {
	switch k.next(12) {
	case 0, 1:
		k.b.tick(k.t)
	case 2:
		k.b.propose(k.t, k.command())
	default:
		k.b.take(k.t, k.message())
	}
}

// P20.1 to P20.6: long scripts of messages that are made up, at a node that began with saves that are made up, against the plain node.
func TestMadeUpMessages(t *testing.T) {
	t.Parallel()
	views, proposals, taken, done, full := 0, 0, 0, 0, 0
	for seed := range uint32(1000) {
		next := walk(seed)
		nodes := 1 + next(api.MaxNodes)
		self := m(next(nodes), 1+next(8)/7)
		k := &maker{t: t, next: next, b: bothOf(t, self, nodes)}
		for range next(3) * 4 {
			k.b = bothOf(t, self, nodes, append(k.b.saves, k.save())...)
		}
		for range 120 {
			k.step()
			if k.b.p.own != nil {
				proposals++
			}
			if k.b.p.acceptor.Taken != none {
				taken++
			}
		}
		views, done = views+k.b.p.view.Number, done+k.b.p.did
		if k.b.p.acceptor.Promised.Round >= great {
			full++
		}
		again := bothOf(t, self, nodes, k.b.saves...)
		goesOn(t, k.b, again)
	}
	if views < 2000 || proposals < 4000 || taken < 4000 || done < 2000 || full < 5 {
		t.Errorf("%d views, %d steps with a proposal, %d with something taken, %d done, %d at the last Round", views, proposals, taken, done, full)
	}
}

// goesOn asks that a node that begins again with its saves is as it was: its view, how that begins, its log, its acceptor.
func goesOn(t *testing.T, was, is *both) {
	t.Helper()
	p, q := was.p, is.p
	if !sameView(was.x.View(), is.x.View()) || !slices.Equal(was.x.Log(), is.x.Log()) || is.x.Sure() > was.x.Sure() || p.acceptor != q.acceptor || p.value != q.value {
		t.Fatalf("%v: %v, %s; was %v, %s", p.self, is.x.View(), shownTexts(is.x.Log()), was.x.View(), shownTexts(was.x.Log()))
	}
	is.tick(t) // tells what is promised
	for _, x := range p.view.Members {
		if x != p.self {
			is.take(t, api.Message{Kind: api.MPrepare, From: x.Node, Life: x.Life, View: p.view.Number + 1, Ballot: bal(great, 6)}) // tells what was taken
		}
	}
}

// P20.1: each order of some saves, of which not all fit in each order, at nodes of each kind of view.
func TestSavesInEachOrder(t *testing.T) {
	t.Parallel()
	a, b := create(t, "a", 0), create(t, "b", 0)
	l := []string{
		save(1, value(of(2, m(0, 1), m(1, 1)), a), 0),
		save(1, value(of(3, m(0, 1), m(1, 2)), a, b), 0),
		save(2, accepted(bal(3, 1), none, ""), 0),
		save(3, a, 0),
		save(3, b, 1),
		save(3, b, 2),
		save(2, accepted(bal(2, 1), bal(2, 0), "v"), 0),
	}
	for _, self := range []api.Member{m(0, 1), m(1, 1), m(1, 2)} {
		permuted(l, 0, func() {
			x := bothOf(t, self, 3, l...)
			x.tick(t)
			for n := range 2 {
				x.take(t, api.Message{Kind: api.MTake, From: n, Life: 1, View: x.p.view.Number + 1, Ballot: bal(2, 1), Value: "w"})
			}
		})
	}
}

// permuted has l be in each order of what stands from a place on.
func permuted(l []string, from int, do func()) {
	if from == len(l) {
		do()
		return
	}
	for i := from; i < len(l); i++ {
		l[from], l[i] = l[i], l[from]
		permuted(l, from+1, do)
		l[from], l[i] = l[i], l[from]
	}
}
