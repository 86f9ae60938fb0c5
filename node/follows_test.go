package node_test

import (
	"slices"
	"sync"
	"testing"

	"carillon/api"
	"carillon/command"
	"carillon/node"
)

// told is all that came of a script.
type told struct {
	effects []api.Effects
	codes   []int
}

// play does a script of made-up steps at a node, without a plain one beside it.
func play(t testing.TB, script []func(x *node.Node) (int, api.Effects), self api.Member, nodes int) told {
	var l told
	x, e := node.New(self, nodes, nil)
	if e != api.OK {
		t.Errorf("New: %d", e)
		return l
	}
	for _, do := range script {
		code, effects := do(x)
		l.codes, l.effects = append(l.codes, code), append(l.effects, effects)
	}
	return l
}

// written writes down what a maker has a node do.
func written(t testing.TB, seed uint32, self api.Member, nodes, steps int) []func(x *node.Node) (int, api.Effects) {
	var l []func(x *node.Node) (int, api.Effects)
	k := &maker{t: t, next: walk(seed), b: bothOf(t, self, nodes)}
	for range steps {
		switch k.next(10) {
		case 0:
			k.b.tick(t)
			l = append(l, func(x *node.Node) (int, api.Effects) { return 0, x.Tick() })
		case 1:
			s := k.command()
			k.b.propose(t, s)
			l = append(l, func(x *node.Node) (int, api.Effects) { return x.Propose(s) })
		default:
			y := k.message()
			k.b.take(t, y)
			l = append(l, func(x *node.Node) (int, api.Effects) { return 0, x.Take(y) })
		}
	}
	return l
}

// P4: the same script, the same answers, again and again, whatever others do beside it.
func TestManyBesideEachOther(t *testing.T) {
	t.Parallel()
	for seed := range uint32(8) {
		self, nodes := m(int(seed)%3, 1), 3+int(seed)%5
		script := written(t, seed+900, self, nodes, 150)
		first := play(t, script, self, nodes)
		var workers sync.WaitGroup
		for range 8 {
			workers.Go(func() {
				for range 3 {
					l := play(t, script, self, nodes)
					if !slices.Equal(l.codes, first.codes) || !slices.EqualFunc(l.effects, first.effects, sameEffects) {
						t.Error("another answer")
					}
				}
			})
		}
		workers.Wait()
	}
}

// P2, P4: what is asked changes nothing, however often; nor does what is refused.
func TestAskingChangesNothing(t *testing.T) {
	for _, s := range standings(t) {
		b := s.make()
		for range 3 {
			for range 5 {
				b.hold(t)
				b.propose(t, "no command")
				b.take(t, api.Message{Kind: api.MInstall, From: 1, Life: 0, Value: value(all(9, 4))})
			}
			b.tick(t)
		}
	}
}

// P3: two nodes share nothing, also of one list of saves.
func TestTwoShareNothing(t *testing.T) {
	a := create(t, "a", 0)
	saved := []string{save(1, value(of(2, m(0, 1), m(1, 1)), a), 0), save(2, accepted(bal(3, 1), bal(3, 1), "v"), 0), save(3, "x", 1)}
	one, two := bothOf(t, m(0, 1), 2, saved...), bothOf(t, m(0, 1), 2, saved...)
	one.hear(t, m(1, 1))
	one.ticks(t, 3)
	one.take(t, installOf(m(1, 1), value(of(3, m(0, 1)), a, "x", create(t, "b", 0))))
	one.propose(t, create(t, "c", 0))
	two.hold(t)
	two.tick(t)
	if two.x.Machine().Count() != 1 || one.x.Machine().Count() != 4 || one.x.Machine() == two.x.Machine() {
		t.Error("they share a machine")
	}
}

// P20.7: of the three nodes of a view one is lost behind each of the steps in which the view is changed; the others have the next one, with all that was sure.
func TestLostAtEachStep(t *testing.T) {
	for lost := range 3 {
		for step := range 60 {
			c := townOf(t, 3)
			c.rounds(1)
			c.ask(0, api.Command{Kind: api.CCreate, Topic: "a"})
			c.rounds(3)
			c.ask(2, api.Command{Kind: api.CCreate, Topic: "b"})
			cut := map[int]bool{lost: step%2 == 0}
			for n := range 20 {
				for node := range 3 {
					if !cut[node] {
						c.tick(node)
					}
				}
				for many := 0; len(c.way) > 0 && many < 200; many++ {
					if n*20+many >= step*5 {
						cut[lost] = true
					}
					if x := c.way[0]; cut[x.To] || cut[x.M.From] {
						c.way = c.way[1:]
					} else {
						c.come(0)
					}
				}
			}
			for node := range 3 {
				if v := c.nodes[node].x.View(); node != lost && (v.Number < 2 || !c.nodes[node].x.Primary() || len(v.Members) != 2) {
					t.Fatalf("node %d is lost behind step %d: node %d has %v", lost, step, node, v)
				}
			}
			c.calm(30)
			c.settled()
			if len(c.whole) < 1 || c.nodes[lost].x.View().Number < 3 {
				t.Fatalf("node %d is lost behind step %d: %d were done", lost, step, len(c.whole))
			}
		}
	}
}

// P20.7: a node that begins again, at each step, goes on as it was.
func TestBeginsAgainAtEachStep(t *testing.T) {
	t.Parallel()
	for seed := range uint32(60) {
		next := walk(seed + 31)
		nodes := 1 + next(5)
		c := townOf(t, nodes)
		for range 150 {
			c.adverse(next, 1+next(6))
			for n, x := range c.nodes {
				if x == nil {
					continue
				}
				again := bothOf(t, m(n, c.lives[n]), nodes, x.saves...)
				p, q := x.p, again.p
				if !sameView(p.view, q.view) || !slices.Equal(p.log, q.log) || p.acceptor != q.acceptor || p.value != q.value || again.x.Sure() > x.x.Sure() {
					t.Fatalf("node %d: %v, %s; was %v, %s", n, q.view, shownTexts(q.log), p.view, shownTexts(p.log))
				}
			}
		}
	}
}

// bytesAsNumbers has a script be made up by bytes, one number each; behind them all are 0.
func bytesAsNumbers(s []byte) func(int) int {
	return func(below int) int {
		if len(s) == 0 {
			return 0
		}
		n := int(s[0])
		s = s[1:]
		if below > 256 && len(s) > 0 {
			n, s = n<<8|int(s[0]), s[1:]
		}
		return n % below
	}
}

// P1, P20.1 to P20.6: scripts of all kinds against the plain node.
func FuzzScript(f *testing.F) {
	f.Add([]byte{3, 0, 0, 1, 2, 3, 4, 5, 6, 7, 8, 9, 10, 11, 12, 13, 14, 15, 16, 17, 18, 19, 20})
	f.Add([]byte{0, 0, 0})
	for seed := range uint32(20) {
		next := walk(seed)
		var s []byte
		for range 400 {
			s = append(s, byte(next(256)))
		}
		f.Add(s)
	}
	f.Fuzz(func(t *testing.T, script []byte) {
		script = script[:min(len(script), 3000)]
		next := bytesAsNumbers(script)
		nodes := 1 + next(api.MaxNodes)
		self := m(next(nodes), 1+next(3)/2)
		k := &maker{t: t, next: next, b: bothOf(t, self, nodes)}
		for range next(9) {
			k.b = bothOf(t, self, nodes, append(k.b.saves, k.save())...)
		}
		for range len(script) / 8 {
			k.step()
		}
		goesOn(t, k.b, bothOf(t, self, nodes, k.b.saves...))
	})
}

// P1, P20.1: saves of all kinds, against the plain node.
func FuzzSaves(f *testing.F) {
	a, _ := command.Encode(api.Command{Kind: api.CCreate, Topic: "a"})
	f.Add(0, 1, 3, save(1, value(of(2, m(0, 1), m(1, 1)), a), 0), save(2, accepted(bal(3, 1), bal(2, 1), "v"), 0), save(3, a, 1))
	f.Add(1, 2, 3, save(3, a, 0), save(1, value(of(9, m(1, 2))), 0), save(3, "x", 0))
	f.Add(0, 1, 1, save(3, a, 0), save(3, a, 1), "x")
	f.Add(6, great, 7, "", save(2, "", 0), save(1, "", 0))
	f.Add(7, 0, 8, "", "", "")
	f.Fuzz(func(t *testing.T, n, life, nodes int, s1, s2, s3 string) {
		if n < 0 || n > 6 || life < 1 || life > great || nodes < 1 || nodes > 7 || n >= nodes {
			if x, e := node.New(m(n, life), nodes, []string{s1, s2, s3}); x != nil || e != api.ErrArg {
				t.Errorf("New(%d.%d, %d): %v, %d", n, life, nodes, x, e)
			}
			return
		}
		b := bothOf(t, m(n, life), nodes, s1, s2, s3)
		for other := range nodes {
			b.take(t, prepareOf(m(other, 1), b.p.view.Number+1, bal(5, other)))
		}
		b.tick(t)
		b.propose(t, s3)
		b.propose(t, s1)
	})
}
