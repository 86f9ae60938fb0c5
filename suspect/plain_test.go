package suspect_test

import (
	"fmt"
	"math"
	"slices"
	"strings"
	"testing"

	"carillon/api"
	"carillon/suspect"
)

const great = 1<<53 - 1

func m(node, life int) api.Member { return api.Member{Node: node, Life: life} }

// begun tells one of self, who must be right.
func begun(t *testing.T, self api.Member) *suspect.Suspect {
	t.Helper()
	s, e := suspect.New(self)
	if e != api.OK || s == nil {
		t.Fatalf("New(%v): %v, %d", self, s, e)
	}
	return s
}

// ticks has so many ticks go by.
func ticks(s *suspect.Suspect, n int) {
	for range n {
		s.Tick()
	}
}

func wantHeard(t *testing.T, s *suspect.Suspect, want bool, members ...api.Member) {
	t.Helper()
	for _, x := range members {
		if s.Heard(x) != want {
			t.Errorf("Heard(%v): %v", x, !want)
		}
	}
}

// wantAlive asks that Alive tells just these, and that Is holds of them and of no other one.
func wantAlive(t *testing.T, s *suspect.Suspect, want ...api.Member) {
	t.Helper()
	if l := s.Alive(); !slices.Equal(l, want) {
		t.Errorf("Alive: %v; want %v", l, want)
	}
	for _, x := range want {
		if !s.Is(x) {
			t.Errorf("Is(%v): false", x)
		}
	}
	for _, x := range append(rightMembers(), wrongMembers()...) {
		if s.Is(x) && !slices.Contains(want, x) {
			t.Errorf("Is(%v): true; alive are %v", x, want)
		}
	}
}

// rightMembers are members at the edges of Node and of Life, and between.
func rightMembers() []api.Member {
	var l []api.Member
	for node := range api.MaxNodes {
		for _, life := range []int{1, 2, 3, 4, 5, 6, 7, 255, 256, 1 << 32, great - 1, great} {
			l = append(l, m(node, life))
		}
	}
	return l
}

// wrongMembers are members that are not right: in Node, in Life, in both.
func wrongMembers() []api.Member {
	l := []api.Member{m(-1, 0), m(api.MaxNodes, 0), m(-1, great+1), m(api.MaxNodes, great+1), m(math.MinInt, math.MinInt), m(math.MaxInt, math.MaxInt)}
	for _, node := range []int{-1, -2, -api.MaxNodes, api.MaxNodes, api.MaxNodes + 1, 255, 256, 1 << 32, math.MaxInt, math.MinInt} {
		l = append(l, m(node, 1), m(node, 2), m(node, great))
	}
	for node := range api.MaxNodes {
		for _, life := range []int{0, -1, -2, -great, great + 1, great + 2, 1 << 62, math.MaxInt, math.MinInt} {
			l = append(l, m(node, life))
		}
	}
	return l
}

// plain keeps all that was ever heard, and when, and goes through it each time it is asked.
type plain struct {
	self api.Member
	now  int
	past []word
}

// word is one that was heard.
type word struct {
	node, life, at int
}

func (p *plain) heard(x api.Member) bool {
	if x.Node < 0 || x.Node > 6 || x.Life <= 0 || x.Life >= 9007199254740992 || x.Node == p.self.Node {
		return false
	}
	for _, w := range p.past {
		if w.node == x.Node && w.life > x.Life {
			return false
		}
	}
	p.past = append(p.past, word{node: x.Node, life: x.Life, at: p.now})
	return true
}

func (p *plain) is(x api.Member) bool {
	if x.Node == p.self.Node {
		return x.Life == p.self.Life
	}
	for _, w := range slices.Backward(p.past) {
		if w.node == x.Node {
			return w.life == x.Life && p.now-w.at <= 4
		}
	}
	return false
}

func (p *plain) alive() []api.Member {
	l := []api.Member{p.self}
	for _, w := range p.past {
		if x := m(w.node, w.life); p.is(x) && !slices.Contains(l, x) {
			l = append(l, x)
		}
	}
	slices.SortFunc(l, func(x, y api.Member) int { return x.Node - y.Node })
	return l
}

// both has one of the program's and a plain one do the same, and keeps what it was, for a failure's line.
type both struct {
	s    *suspect.Suspect
	p    plain
	done strings.Builder
}

func bothOf(t *testing.T, self api.Member) *both {
	t.Helper()
	b := &both{s: begun(t, self), p: plain{self: self}}
	fmt.Fprintf(&b.done, "New(%d.%d)", self.Node, self.Life)
	return b
}

func (b *both) heard(t *testing.T, x api.Member) {
	t.Helper()
	fmt.Fprintf(&b.done, " %d.%d", x.Node, x.Life)
	if got, want := b.s.Heard(x), b.p.heard(x); got != want {
		t.Fatalf("%s: Heard: %v", b.done.String(), got)
	}
}

func (b *both) tick() {
	b.done.WriteString(" tick")
	b.s.Tick()
	b.p.now++
}

// hold asks that both tell the same of who is alive, and of each of asked.
func (b *both) hold(t *testing.T, asked ...api.Member) {
	t.Helper()
	want := b.p.alive()
	if got := b.s.Alive(); !slices.Equal(got, want) {
		t.Fatalf("%s: Alive: %v; want %v", b.done.String(), got, want)
	}
	for _, x := range append(want, asked...) {
		if b.s.Is(x) != b.p.is(x) {
			t.Fatalf("%s: Is(%v): %v", b.done.String(), x, !b.p.is(x))
		}
	}
}

// walk tells numbers below a bound, without a random source.
func walk(seed uint32) func(below int) int {
	return func(below int) int {
		seed = seed*1664525 + 1013904223
		return int(seed>>8) % below
	}
}
