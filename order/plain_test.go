package order_test

import (
	"fmt"
	"math"
	"slices"
	"strconv"
	"strings"
	"testing"

	"carillon/api"
	"carillon/order"
)

func size(s string, n int) string { return strings.Repeat(s, n) }

// texts are so many, each another one, of several lengths.
func texts(n int) []string {
	var l []string
	for i := range n {
		l = append(l, size("t", i%3)+strconv.Itoa(i))
	}
	return l
}

// counted is what texts count together.
func counted(l []string) int { return len(strings.Join(l, "")) + 4*len(l) }

// filling is a text with which l counts just MaxLog.
func filling(l []string) string { return size("f", api.MaxLog-counted(l)-4) }

// views are all lots of nodes that may be a view's, rising.
func views() [][]int {
	var all [][]int
	for bits := 1; bits < 1<<api.MaxNodes; bits++ {
		var l []int
		for node := range api.MaxNodes {
			if bits>>node&1 == 1 {
				l = append(l, node)
			}
		}
		all = append(all, l)
	}
	return all
}

// fewViews are a view of each number of nodes, with nodes at the edges and without.
func fewViews() [][]int {
	return [][]int{{0}, {3}, {6}, {0, 6}, {2, 3}, {0, 1, 2}, {1, 4, 5}, {0, 2, 4, 6}, {1, 2, 3, 4, 5}, {0, 1, 3, 4, 5, 6}, {0, 1, 2, 3, 4, 5, 6}}
}

// noNodes are numbers that no node has.
func noNodes() []int {
	return []int{-1, -2, -api.MaxNodes, math.MinInt, api.MaxNodes, api.MaxNodes + 1, 256, 1 << 32, math.MaxInt}
}

// begun tells one that must be there.
func begun(t *testing.T, self int, nodes []int, log ...string) *order.Order {
	t.Helper()
	o, e := order.New(self, nodes, log)
	if e != api.OK || o == nil {
		t.Fatalf("New(%d, %v, %d texts): %v, %d", self, nodes, len(log), o, e)
	}
	return o
}

// state is all that an order tells.
func state(o *order.Order) string {
	var s strings.Builder
	fmt.Fprintf(&s, "%v %d %d %d %q", o.First(), o.Len(), o.Bytes(), o.Sure(), o.Log())
	for node := -1; node <= api.MaxNodes; node++ {
		from, l := o.Wants(node, math.MaxInt)
		fmt.Fprintf(&s, " %d: %d %q", node, from, l)
	}
	return s.String()
}

func wantPropose(t *testing.T, o *order.Order, s string, want int, code api.Errno) {
	t.Helper()
	if n, e := o.Propose(s); n != want || e != code {
		t.Errorf("Propose of %d bytes: %d, %d; want %d, %d", len(s), n, e, want, code)
	}
}

func wantAdd(t *testing.T, o *order.Order, i int, s string, want bool) {
	t.Helper()
	if o.Add(i, s) != want {
		t.Errorf("Add(%d, %d bytes): %v", i, len(s), !want)
	}
}

func wantHas(t *testing.T, o *order.Order, node, n int, want bool) {
	t.Helper()
	if o.Has(node, n) != want {
		t.Errorf("Has(%d, %d): %v", node, n, !want)
	}
}

func wantLearn(t *testing.T, o *order.Order, n int, want bool) {
	t.Helper()
	if o.Learn(n) != want {
		t.Errorf("Learn(%d): %v", n, !want)
	}
}

func wantWants(t *testing.T, o *order.Order, node, most, want int, l ...string) {
	t.Helper()
	if from, got := o.Wants(node, most); from != want || !slices.Equal(got, l) {
		t.Errorf("Wants(%d, %d): %d, %q; want %d, %q", node, most, from, got, want, l)
	}
}

func wantSure(t *testing.T, o *order.Order, want int) {
	t.Helper()
	if n := o.Sure(); n != want {
		t.Errorf("Sure: %d; want %d", n, want)
	}
}

// wantLog asks of Log, Len and Bytes.
func wantLog(t *testing.T, o *order.Order, want ...string) {
	t.Helper()
	if l := o.Log(); !slices.Equal(l, want) {
		t.Errorf("Log: %d texts; want %d", len(l), len(want))
	}
	if n, b := o.Len(), o.Bytes(); n != len(want) || b != counted(want) {
		t.Errorf("Len %d, Bytes %d; want %d, %d", n, b, len(want), counted(want))
	}
}

// same asks that something has left an order as it was.
func same(t *testing.T, what string, o *order.Order, was string) {
	t.Helper()
	if is := state(o); is != was {
		t.Errorf("behind %s: %.300s; was %.300s", what, is, was)
	}
}

// plain is an order that keeps all that it was told, and goes through it each time it is asked.
type plain struct {
	self    int
	nodes   []int
	ahead   int // how many texts the view began with
	log     []string
	said    [][2]int // of each Has: the node, how many texts
	learned []int    // of each Learn: how many texts were sure by it
}

func (p *plain) first() bool { return p.self == p.nodes[0] }

// has tells how many texts a node has.
func (p *plain) has(node int) int {
	n := p.ahead
	for _, h := range p.said {
		if h[0] == node {
			n = max(n, h[1])
		}
	}
	if node == p.self {
		n = len(p.log)
	}
	return n
}

func (p *plain) sure() int {
	n := p.ahead
	for _, m := range p.learned {
		n = max(n, m)
	}
	for i := range p.log {
		have := 0
		for _, node := range p.nodes {
			if p.first() && p.has(node) > i {
				have++
			}
		}
		if 2*have > len(p.nodes) {
			n = max(n, i+1)
		}
	}
	return n
}

func (p *plain) full(s string) bool { return counted(append(slices.Clone(p.log), s)) > 45000 }

func (p *plain) propose(s string) (int, api.Errno) {
	switch {
	case !p.first():
		return 0, 11
	case p.full(s):
		return 0, 8
	}
	p.log = append(p.log, s)
	return len(p.log) - 1, 0
}

func (p *plain) add(i int, s string) bool {
	if p.first() || i != len(p.log) || p.full(s) {
		return false
	}
	p.log = append(p.log, s)
	return true
}

func (p *plain) asks(node int) bool {
	return p.first() && slices.Contains(p.nodes, node) && node != p.self
}

func (p *plain) hears(node, n int) bool {
	if !p.asks(node) || n < 0 || n > len(p.log) {
		return false
	}
	p.said = append(p.said, [2]int{node, n})
	return true
}

func (p *plain) learn(n int) bool {
	was := p.sure()
	if p.first() || n <= was || len(p.log) == was {
		return false
	}
	p.learned = append(p.learned, min(n, len(p.log)))
	return true
}

func (p *plain) wants(node, most int) (int, []string) {
	if !p.asks(node) {
		return -1, nil
	}
	var l []string
	for i := p.has(node); i < len(p.log) && len(l) < most; i++ {
		l = append(l, p.log[i])
	}
	return p.has(node), l
}

// both has one of the program's and a plain one do the same, and keeps what was done, for a failure's line.
type both struct {
	o    *order.Order
	p    plain
	done strings.Builder
}

func bothOf(t *testing.T, self int, nodes []int, log ...string) *both {
	t.Helper()
	b := &both{o: begun(t, self, nodes, log...), p: plain{self: self, nodes: nodes, ahead: len(log), log: slices.Clone(log)}}
	fmt.Fprintf(&b.done, "New(%d, %v, %d texts)", self, nodes, len(log))
	return b
}

func (b *both) propose(t *testing.T, s string) {
	t.Helper()
	fmt.Fprintf(&b.done, " Propose(%.9s)", s)
	n, e := b.o.Propose(s)
	if m, f := b.p.propose(s); n != m || e != f {
		t.Fatalf("%s: %d, %d; want %d, %d", b.done.String(), n, e, m, f)
	}
}

func (b *both) add(t *testing.T, i int, s string) {
	t.Helper()
	fmt.Fprintf(&b.done, " Add(%d, %.9s)", i, s)
	if ok := b.o.Add(i, s); ok != b.p.add(i, s) {
		t.Fatalf("%s: %v", b.done.String(), ok)
	}
}

func (b *both) has(t *testing.T, node, n int) {
	t.Helper()
	fmt.Fprintf(&b.done, " Has(%d, %d)", node, n)
	if ok := b.o.Has(node, n); ok != b.p.hears(node, n) {
		t.Fatalf("%s: %v", b.done.String(), ok)
	}
}

func (b *both) learn(t *testing.T, n int) {
	t.Helper()
	fmt.Fprintf(&b.done, " Learn(%d)", n)
	if ok := b.o.Learn(n); ok != b.p.learn(n) {
		t.Fatalf("%s: %v", b.done.String(), ok)
	}
}

// wants is asked for the answer alone.
func (b *both) wants(t *testing.T, node, most int) {
	t.Helper()
	from, l := b.o.Wants(node, most)
	if n, want := b.p.wants(node, most); from != n || !slices.Equal(l, want) {
		t.Fatalf("%s: Wants(%d, %d): %d, %q; want %d, %q", b.done.String(), node, most, from, l, n, want)
	}
}

// hold asks that both tell the same.
func (b *both) hold(t *testing.T) {
	t.Helper()
	if b.o.First() != b.p.first() || b.o.Sure() != b.p.sure() {
		t.Fatalf("%s: First %v, Sure %d; want %d", b.done.String(), b.o.First(), b.o.Sure(), b.p.sure())
	}
	if b.o.Len() != len(b.p.log) || b.o.Bytes() != counted(b.p.log) || !slices.Equal(b.o.Log(), b.p.log) {
		t.Fatalf("%s: Len %d, Bytes %d, Log %.300q; want %.300q", b.done.String(), b.o.Len(), b.o.Bytes(), b.o.Log(), b.p.log)
	}
	for node := -1; node <= api.MaxNodes; node++ {
		for _, most := range []int{-1, 0, 1, 2, len(b.p.log) - b.p.has(node), len(b.p.log) + 1, math.MaxInt} {
			b.wants(t, node, most)
		}
	}
}

// walk tells numbers below a bound, without a random source.
func walk(seed uint32) func(below int) int {
	return func(below int) int {
		seed = seed*1664525 + 1013904223
		return int(seed>>8) % below
	}
}
