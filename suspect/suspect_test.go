package suspect_test

import (
	"math"
	"slices"
	"testing"

	"carillon/api"
	"carillon/suspect"
)

// P13.1, P13.2: the chapter's examples, line by line.
func TestExamples(t *testing.T) {
	s := begun(t, m(0, 1))
	wantHeard(t, s, true, m(1, 2))
	wantHeard(t, s, false, m(1, 1))
	wantAlive(t, s, m(0, 1), m(1, 2))
	ticks(s, 5)
	wantAlive(t, s, m(0, 1))
	wantHeard(t, s, false, m(1, 1))
	wantAlive(t, s, m(0, 1))
}

// P13.1: of each right member, at the edges of Node and Life: nobody was heard, self alone is alive, for ever.
func TestNew(t *testing.T) {
	for _, self := range rightMembers() {
		s := begun(t, self)
		wantAlive(t, s, self)
		for range 12 {
			s.Tick()
			wantAlive(t, s, self)
		}
	}
}

// P13.1, P2: of a self that is no right member there is none.
func TestNewOfWrongMembers(t *testing.T) {
	for _, self := range append(wrongMembers(), api.Member{}) {
		if s, e := suspect.New(self); s != nil || e != api.ErrArg {
			t.Errorf("New(%v): %v, %d", self, s, e)
		}
	}
}

// P13.1, P13.2: each right member is heard by each node but its own, at the edges of Node and Life.
func TestHeardOfEachMember(t *testing.T) {
	for self := range api.MaxNodes {
		for _, x := range rightMembers() {
			s := begun(t, m(self, 3))
			switch {
			case x.Node == self:
				wantHeard(t, s, false, x)
				wantAlive(t, s, m(self, 3))
			case x.Node < self:
				wantHeard(t, s, true, x)
				wantAlive(t, s, x, m(self, 3))
			default:
				wantHeard(t, s, true, x)
				wantAlive(t, s, m(self, 3), x)
			}
		}
	}
}

// P13.2: just four and just five ticks behind a Heard, of each node, at whatever time it was.
func TestFourAndFiveTicks(t *testing.T) {
	for node := 1; node < api.MaxNodes; node++ {
		for ahead := range 12 {
			s := begun(t, m(0, 1))
			ticks(s, ahead)
			wantAlive(t, s, m(0, 1))
			wantHeard(t, s, true, m(node, 9))
			for range 4 {
				wantAlive(t, s, m(0, 1), m(node, 9))
				s.Tick()
			}
			wantAlive(t, s, m(0, 1), m(node, 9))
			for range 8 {
				s.Tick()
				wantAlive(t, s, m(0, 1))
			}
		}
	}
}

// P13.1, P13.2: one that is heard again, the same Life, at the fourth tick goes on being alive; at the fifth it is alive again, and later too.
func TestHeardAgain(t *testing.T) {
	for again := range 12 {
		s := begun(t, m(3, 1))
		wantHeard(t, s, true, m(2, 7))
		ticks(s, again)
		if want := again < 5; s.Is(m(2, 7)) != want {
			t.Errorf("behind %d ticks: %v", again, !want)
		}
		wantHeard(t, s, true, m(2, 7))
		wantAlive(t, s, m(2, 7), m(3, 1))
		ticks(s, 4)
		wantAlive(t, s, m(2, 7), m(3, 1))
		s.Tick()
		wantAlive(t, s, m(3, 1))
	}
}

// P13.1, P13.2: a greater Life of a node that was heard, alive or not any more, is the one that may be alive from then on.
func TestGreaterLife(t *testing.T) {
	for between := range 12 {
		for _, pair := range [][2]int{{1, 2}, {1, great}, {great - 1, great}, {5, 1 << 40}} {
			old, young := m(6, pair[0]), m(6, pair[1])
			s := begun(t, m(0, 1))
			wantHeard(t, s, true, old)
			ticks(s, between)
			wantHeard(t, s, true, young)
			wantAlive(t, s, m(0, 1), young)
			wantHeard(t, s, false, old)
			ticks(s, 4)
			wantAlive(t, s, m(0, 1), young)
			s.Tick()
			wantAlive(t, s, m(0, 1))
			wantHeard(t, s, false, old)
			wantAlive(t, s, m(0, 1))
		}
	}
}

// P13.1, P2: a lesser Life is not heard, while the greater one is alive and when it is not any more, however long ago; it neither has the greater one live longer nor makes it forgotten.
func TestLesserLife(t *testing.T) {
	for behind := range 200 {
		s := begun(t, m(6, great))
		wantHeard(t, s, true, m(0, great-1))
		ticks(s, behind)
		wantHeard(t, s, false, m(0, 1), m(0, 2), m(0, great-2))
		if want := behind < 5; s.Is(m(0, great-1)) != want {
			t.Errorf("behind %d ticks: %v", behind, !want)
		}
		ticks(s, max(5-behind, 0))
		wantAlive(t, s, m(6, great))
		wantHeard(t, s, true, m(0, great-1))
		wantAlive(t, s, m(0, great-1), m(6, great))
	}
}

// P13.1, P2: what is no right member, and whoever is of self's Node, is not heard; nothing has changed behind it.
func TestHeardOfWrongMembers(t *testing.T) {
	for self := range api.MaxNodes {
		me, other := m(self, 4), m((self+1)%api.MaxNodes, 2)
		wrong := append(wrongMembers(), me, api.Member{})
		for _, life := range []int{1, 2, 3, 5, 6, great} {
			wrong = append(wrong, m(self, life))
		}
		for _, x := range wrong {
			s := begun(t, me)
			wantHeard(t, s, false, x)
			wantAlive(t, s, me)
			wantHeard(t, s, true, other)
			ticks(s, 4)
			wantHeard(t, s, false, x)
			if l := s.Alive(); len(l) != 2 || !s.Is(me) || !s.Is(other) {
				t.Errorf("of %v, behind Heard(%v): %v", me, x, l)
			}
			s.Tick()
			wantHeard(t, s, false, x)
			wantAlive(t, s, me)
			wantHeard(t, s, true, other)
		}
	}
}

// P13.2: Is of members that are not right, of other lives of self, of nodes that were never heard, and of lives that were not heard last.
func TestIsOfOthers(t *testing.T) {
	s := begun(t, m(2, 5))
	wantAlive(t, s, m(2, 5))
	wantHeard(t, s, true, m(0, 3), m(0, 6), m(6, 1))
	wantAlive(t, s, m(0, 6), m(2, 5), m(6, 1))
	for _, x := range []api.Member{
		{}, m(2, 4), m(2, 6), m(2, 1), m(2, great), m(2, 0), m(2, -5), m(2, great+1), m(1, 1), m(1, 0), m(3, 5), m(5, 1), m(0, 3), m(0, 5), m(0, 7), m(0, 0),
		m(6, 2), m(6, 0), m(7, 1), m(-1, 1), m(-1, 5), m(math.MinInt, 1), m(math.MaxInt, 1), m(9, 5), m(2+256, 5), m(2+1<<32, 5), m(6+1<<32, 1),
	} {
		if s.Is(x) {
			t.Errorf("Is(%v): true", x)
		}
	}
	wantAlive(t, s, m(0, 6), m(2, 5), m(6, 1))
}

// P13.2: Alive tells its members by Nodes, whatever the order in which they are heard; each lot of nodes, with each self.
func TestAliveRises(t *testing.T) {
	orders := [][]int{{0, 1, 2, 3, 4, 5, 6}, {6, 5, 4, 3, 2, 1, 0}, {3, 0, 6, 1, 5, 2, 4}, {5, 6, 0, 4, 1, 3, 2}}
	for bits := range 1 << api.MaxNodes {
		for self := range api.MaxNodes {
			for _, order := range orders {
				s := begun(t, m(self, 2))
				for _, node := range order {
					if bits>>node&1 == 1 {
						wantHeard(t, s, node != self, m(node, 1+node))
					}
				}
				var want []api.Member
				for node := range api.MaxNodes {
					if node == self {
						want = append(want, m(self, 2))
					} else if bits>>node&1 == 1 {
						want = append(want, m(node, 1+node))
					}
				}
				if l := s.Alive(); !slices.Equal(l, want) {
					t.Errorf("bits %b, self %d, order %v: %v; want %v", bits, self, order, l, want)
				}
			}
		}
	}
}

// P13.2: nodes that are heard at different times go one by one.
func TestNodesGoOneByOne(t *testing.T) {
	s := begun(t, m(3, 1))
	for _, node := range []int{6, 0, 4, 1} {
		wantHeard(t, s, true, m(node, 2))
		s.Tick()
	}
	wantAlive(t, s, m(0, 2), m(1, 2), m(3, 1), m(4, 2), m(6, 2))
	s.Tick()
	wantAlive(t, s, m(0, 2), m(1, 2), m(3, 1), m(4, 2))
	wantHeard(t, s, true, m(4, 2))
	s.Tick()
	wantAlive(t, s, m(1, 2), m(3, 1), m(4, 2))
	s.Tick()
	wantAlive(t, s, m(1, 2), m(3, 1), m(4, 2))
	s.Tick()
	wantAlive(t, s, m(3, 1), m(4, 2))
	s.Tick()
	wantAlive(t, s, m(3, 1), m(4, 2))
	s.Tick()
	wantAlive(t, s, m(3, 1))
}
