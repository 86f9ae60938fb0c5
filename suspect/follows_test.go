package suspect_test

import (
	"slices"
	"sync"
	"testing"

	"carillon/api"
	"carillon/suspect"
)

// P13.1, P13.2: each script of up to nine steps, of ticks and three that are heard, against a plain one that keeps all that was heard.
func TestEachShortScript(t *testing.T) {
	said := []api.Member{m(0, 1), m(0, 2), m(2, 1)}
	asked := append([]api.Member{m(0, 3), m(1, 1), m(1, 5), m(2, 2), m(3, 1), m(0, 0), m(2, 0)}, said...)
	for length := range 10 {
		for script := range 1 << (2 * length) {
			b := bothOf(t, m(1, 5))
			for at := range length {
				if step := script >> (2 * at) & 3; step < 3 {
					b.heard(t, said[step])
				} else {
					b.tick()
				}
			}
			b.hold(t, asked...)
		}
	}
}

// somebody tells a member, most often a right one of few lives.
func somebody(next func(int) int) api.Member {
	if next(8) == 0 {
		wrong := wrongMembers()
		return wrong[next(len(wrong))]
	}
	life := 1 + next(3)
	if next(40) == 0 {
		life = great - next(2)
	}
	return m(next(api.MaxNodes), life)
}

// P13.1, P13.2, P13.3: long scripts of all nodes, heard in any order, again and again, with ticks between; of one node never more than one life is alive.
func TestLongScripts(t *testing.T) {
	full := 0
	for seed := range uint32(400) {
		next := walk(seed)
		b := bothOf(t, m(next(api.MaxNodes), 1+next(4)))
		for range 150 {
			if next(4+int(seed%12)) == 0 {
				b.tick()
			} else {
				b.heard(t, somebody(next))
			}
			b.hold(t, rightMembers()...)
			oneLifeEach(t, b.s)
			if len(b.s.Alive()) == api.MaxNodes {
				full++
			}
		}
	}
	if full < 1000 {
		t.Errorf("only %d times all nodes were alive", full)
	}
}

// oneLifeEach asks that no node has two lives that are alive.
func oneLifeEach(t *testing.T, s *suspect.Suspect) {
	t.Helper()
	var lives [api.MaxNodes]int
	for _, x := range rightMembers() {
		if s.Is(x) {
			lives[x.Node]++
		}
	}
	for node, n := range lives {
		if n > 1 {
			t.Fatalf("node %d has %d lives that are alive", node, n)
		}
	}
}

// P13.3: who is heard at least each fourth tick is always alive, whatever the row of ticks between.
func TestHeardEachFourthTick(t *testing.T) {
	for row := range 5 * 5 * 5 * 5 * 5 {
		s := begun(t, m(6, 1))
		for range 5 {
			wantHeard(t, s, true, m(0, 4))
			for range row%5 + 1 {
				if !s.Is(m(0, 4)) || !slices.Equal(s.Alive(), []api.Member{m(0, 4), m(6, 1)}) {
					t.Fatalf("row %d: %v", row, s.Alive())
				}
				s.Tick()
			}
			row /= 5
		}
	}
}

// P13.3: all nodes are heard each fourth tick, each at a time of its own, and two of them are not any more: these are gone behind five ticks, and for ever; the others stay.
func TestSomeFallSilent(t *testing.T) {
	const silent = 100
	s := begun(t, m(3, 1))
	for now := range 1000 {
		want := []api.Member{m(3, 1)}
		for node := range api.MaxNodes {
			ends := node == 1 || node == 5
			if now%4 == node%4 && (!ends || now <= silent) && node != 3 {
				wantHeard(t, s, true, m(node, 2))
			}
			last := silent - (silent-node)%4
			if node != 3 && now >= node%4 && (!ends || now < last+5) {
				want = append(want, m(node, 2))
			}
		}
		slices.SortFunc(want, func(x, y api.Member) int { return x.Node - y.Node })
		if l := s.Alive(); !slices.Equal(l, want) {
			t.Fatalf("at %d: %v; want %v", now, l, want)
		}
		s.Tick()
	}
}

// P13.2, P13.3: who is not heard is not alive behind five ticks, nor behind very many.
func TestVeryManyTicks(t *testing.T) {
	s := begun(t, m(0, 1))
	wantHeard(t, s, true, m(1, 1))
	for gone := range 1 << 25 {
		if s.Is(m(1, 1)) != (gone < 5) || s.Is(m(2, 1)) {
			t.Fatalf("behind %d ticks: %v", gone, s.Alive())
		}
		s.Tick()
	}
	wantAlive(t, s, m(0, 1))
	wantHeard(t, s, true, m(1, 1), m(2, 1))
	ticks(s, 4)
	wantAlive(t, s, m(0, 1), m(1, 1), m(2, 1))
	s.Tick()
	wantAlive(t, s, m(0, 1))
}

// P3: what Alive tells is new memory, spare room too: nothing that is written there is told again, nor does a later call write into it.
func TestAliveIsNewMemory(t *testing.T) {
	s := begun(t, m(2, 1))
	wantHeard(t, s, true, m(0, 1), m(5, 1))
	want := []api.Member{m(0, 1), m(2, 1), m(5, 1)}
	first, second := s.Alive(), s.Alive()
	first = first[:cap(first)]
	for i := range first {
		first[i] = m(4, 44)
	}
	if !slices.Equal(second, want) {
		t.Errorf("%v; want %v", second, want)
	}
	spare := slices.Clone(second[:cap(second)])
	wantAlive(t, s, want...)
	wantHeard(t, s, true, m(0, 2), m(1, 3), m(6, 1))
	wantAlive(t, s, m(0, 2), m(1, 3), m(2, 1), m(5, 1), m(6, 1))
	ticks(s, 5)
	wantAlive(t, s, m(2, 1))
	if !slices.Equal(second[:cap(second)], spare) || slices.ContainsFunc(first, func(x api.Member) bool { return x != m(4, 44) }) {
		t.Errorf("%v, %v", second[:cap(second)], first)
	}
}

// P2, P4: what is asked changes nothing, however often.
func TestAskingChangesNothing(t *testing.T) {
	s := begun(t, m(2, 1))
	wantHeard(t, s, true, m(0, 1))
	for range 4 {
		for range 20 {
			wantAlive(t, s, m(0, 1), m(2, 1))
		}
		s.Tick()
	}
	wantAlive(t, s, m(0, 1), m(2, 1))
	s.Tick()
	wantAlive(t, s, m(2, 1))
}

// P3, P4: two of them share nothing, neither what was heard nor the clock.
func TestTwoShareNothing(t *testing.T) {
	a, b := begun(t, m(0, 1)), begun(t, m(0, 1))
	wantHeard(t, a, true, m(1, 2))
	wantAlive(t, b, m(0, 1))
	wantHeard(t, b, true, m(1, 1))
	ticks(a, 7)
	wantAlive(t, a, m(0, 1))
	wantAlive(t, b, m(0, 1), m(1, 1))
	c := begun(t, m(0, 1))
	wantAlive(t, c, m(0, 1))
	wantHeard(t, c, true, m(1, 1))
	ticks(b, 4)
	wantAlive(t, b, m(0, 1), m(1, 1))
	wantAlive(t, c, m(0, 1), m(1, 1))
}

// P4: the same script, the same answers, whatever others do beside it.
func TestManyBesideEachOther(t *testing.T) {
	var workers sync.WaitGroup
	for range 8 {
		workers.Go(func() {
			for range 50 {
				s, e := suspect.New(m(3, 1))
				if e != api.OK || !s.Heard(m(1, 2)) || s.Heard(m(1, 1)) || !s.Heard(m(6, 1)) {
					t.Error("New, or Heard")
				}
				ticks(s, 4)
				s.Heard(m(6, 2))
				s.Tick()
				if l := s.Alive(); !slices.Equal(l, []api.Member{m(3, 1), m(6, 2)}) {
					t.Error(l)
				}
			}
		})
	}
	workers.Wait()
}

// P1, P13.1, P13.2: scripts of all kinds, of members of all kinds, against a plain one.
func FuzzScript(f *testing.F) {
	f.Add(0, 1, []byte{2, 2, 2, 1, 255, 255, 255, 255, 255, 2, 1})
	f.Add(6, great, []byte{1, 1, 255, 1, 4, 250, 255, 7, 6, 0, 0, 9, 9})
	f.Add(7, 1, []byte{})
	f.Add(0, 0, []byte{1, 1})
	f.Fuzz(func(t *testing.T, node, life int, script []byte) {
		self := m(node, life)
		if s, e := suspect.New(self); e != api.OK {
			if s != nil || e != api.ErrArg || 0 <= node && node < api.MaxNodes && 1 <= life && life <= great {
				t.Errorf("New(%v): %v, %d", self, s, e)
			}
			return
		}
		b := bothOf(t, self)
		lives := []int{0, 1, 2, 3, life, great - 1, great, great + 1, -1}
		script = script[:min(len(script), 2000)]
		for len(script) > 0 {
			x := m(int(script[0])%10-1, lives[int(script[0])/10%len(lives)])
			if script[0] >= 180 {
				b.tick()
			} else {
				b.heard(t, x)
			}
			b.hold(t, x, self, m(x.Node, 1), m(x.Node, 0))
			script = script[1:]
		}
	})
}
