package order_test

import (
	"slices"
	"strconv"
	"testing"

	"carillon/api"
	"carillon/order"
)

// letter goes from the sequencer to another node (what it Wants told, and what is sure), or back (how many texts it has).
type letter struct {
	node  int
	back  bool
	n     int
	sure  int
	texts []string
}

// town is a view: its orders, and what is on the way between them.
type town struct {
	nodes  []int
	orders [api.MaxNodes]*order.Order
	way    []letter
	count  int      // how many texts were proposed
	sure   []string // all that was ever sure at any node
	was    [api.MaxNodes]int
}

func newTown(t *testing.T, nodes []int, log ...string) *town {
	t.Helper()
	x := &town{nodes: nodes}
	for _, node := range nodes {
		x.orders[node] = begun(t, node, nodes, log...)
	}
	return x
}

func (x *town) first() *order.Order { return x.orders[x.nodes[0]] }

// propose has the sequencer order a text that is like no other one.
func (x *town) propose(t *testing.T) {
	t.Helper()
	n := x.first().Len()
	wantPropose(t, x.first(), "text "+strconv.Itoa(x.count), n, api.OK)
	x.count++
}

// write has the sequencer tell a node what it wants.
func (x *town) write(node, most int) {
	n, l := x.first().Wants(node, most)
	x.way = append(x.way, letter{node: node, n: n, sure: x.first().Sure(), texts: l})
}

// bring has a letter come, and be answered.
func (x *town) bring(l letter) {
	if l.back {
		x.first().Has(l.node, l.n)
		return
	}
	o := x.orders[l.node]
	for i, s := range l.texts {
		o.Add(l.n+i, s)
	}
	o.Learn(l.sure)
	x.way = append(x.way, letter{node: l.node, back: true, n: o.Len()})
}

// beginning tells whether a list is one of another one.
func beginning(a, b []string) bool { return len(a) <= len(b) && slices.Equal(a, b[:len(a)]) }

// hold asks what P18.4 promises.
func (x *town) hold(t *testing.T) {
	t.Helper()
	var logs [][]string
	for _, node := range x.nodes {
		o := x.orders[node]
		log, sure := o.Log(), o.Sure()
		if sure < x.was[node] || sure > len(log) {
			t.Fatalf("node %d of %v: %d of %d sure; it was %d", node, x.nodes, sure, len(log), x.was[node])
		}
		if !beginning(log[:sure], x.sure) && !beginning(x.sure, log[:sure]) {
			t.Fatalf("node %d of %v: sure are %q; %q were", node, x.nodes, log[:sure], x.sure)
		}
		if sure > len(x.sure) {
			x.sure = log[:sure]
		}
		x.was[node] = sure
		logs = append(logs, log)
	}
	have := 0
	for _, log := range logs {
		if beginning(x.sure, log) {
			have++
		}
		for _, other := range logs {
			if !beginning(log, other) && !beginning(other, log) {
				t.Fatalf("%v: %q, and %q", x.nodes, log, other)
			}
		}
	}
	if 2*have <= len(x.nodes) {
		t.Fatalf("%v: %q is sure, and had by %d", x.nodes, x.sure, have)
	}
}

// settle has all come: then all have all, and it is sure.
func (x *town) settle(t *testing.T) {
	t.Helper()
	for range x.first().Len() + 2 {
		for _, node := range x.nodes[1:] {
			x.write(node, 4)
		}
		for len(x.way) > 0 {
			l := x.way[0]
			x.way = x.way[1:]
			x.bring(l)
		}
		x.hold(t)
	}
	for _, node := range x.nodes {
		wantSure(t, x.orders[node], x.first().Len())
	}
	wantLog(t, x.orders[x.nodes[len(x.nodes)-1]], x.first().Log()...)
}

// take brings the letter of a place on the way, which stays there if it is doubled.
func (x *town) take(place int, doubled bool) {
	if place < 0 || place >= len(x.way) {
		return
	}
	l := x.way[place]
	if !doubled {
		x.way = slices.Delete(x.way, place, place+1)
	}
	x.bring(l)
}

// lose has the first letter not come.
func (x *town) lose() {
	x.way = x.way[min(1, len(x.way)):]
}

// P18.4: each row of up to six steps of views of one to four nodes: letters come at once, late, twice, not at all.
func TestEachShortRow(t *testing.T) {
	t.Parallel()
	for _, nodes := range [][]int{{0}, {2, 5}, {0, 1, 2}, {0, 3, 4, 6}} {
		last := nodes[len(nodes)-1]
		steps := []func(x *town){
			func(x *town) { x.propose(t) },
			func(x *town) { x.take(0, false) },
			func(x *town) { x.take(len(x.way)-1, false) },
			func(x *town) { x.take(0, true) },
			func(x *town) { x.lose() },
		}
		if len(nodes) > 1 {
			steps = append(steps, func(x *town) { x.write(nodes[1], 1) }, func(x *town) { x.write(last, 4) })
		}
		many := 1
		for range 6 {
			many *= len(steps)
		}
		for row := range many {
			x := newTown(t, nodes, "a")
			x.propose(t)
			rest := row
			for range 6 {
				steps[rest%len(steps)](x)
				rest /= len(steps)
				x.hold(t)
			}
		}
	}
}

// roam does what may come next: a text, a letter that is written, one that comes, comes and stays, or is lost.
func (x *town) roam(t *testing.T, next func(int) int) {
	t.Helper()
	lot := next(12)
	switch {
	case lot == 0:
		x.propose(t)
	case lot < 4 && len(x.nodes) > 1:
		x.write(x.nodes[1+next(len(x.nodes)-1)], next(6)-1)
	case len(x.way) == 0:
	case lot < 10:
		x.take(next(len(x.way)), lot < 6)
	default:
		x.way = slices.Delete(x.way, 0, 1)
	}
}

// P18.4: long rows of views of all numbers of nodes, letters lost, late, twice and in any order; once all come, all is sure.
func TestLongRows(t *testing.T) {
	sure, early := 0, 0
	for seed := range uint32(1000) {
		next := walk(seed)
		nodes := pick(next, fewViews()...)
		x := newTown(t, nodes, texts(next(3))...)
		for range 150 {
			x.roam(t, next)
			x.hold(t)
		}
		sure += x.count
		if len(x.sure) < x.first().Len() {
			early++
		}
		x.settle(t)
	}
	if sure < 5000 || early < 300 {
		t.Errorf("only %d texts; only %d times some were not sure", sure, early)
	}
}

// P1, P18.4: whatever comes, letters are told by a script of bytes.
func FuzzTown(f *testing.F) {
	f.Add(uint8(2), uint8(0), []byte("carillon carillon carillon"))
	f.Add(uint8(6), uint8(3), []byte{0, 0, 1, 1, 4, 4, 250, 3, 4, 1, 9, 2, 8, 16, 24, 11})
	f.Add(uint8(0), uint8(1), []byte{0, 0, 12})
	f.Fuzz(func(t *testing.T, size, many uint8, script []byte) {
		x := newTown(t, []int{0, 1, 2, 3, 4, 5, 6}[:1+size%7], texts(int(many%9))...)
		script = script[:min(len(script), 1000)]
		next := func(below int) int {
			if len(script) == 0 {
				return 0
			}
			n := int(script[0]) % below
			script = script[1:]
			return n
		}
		for len(script) > 0 {
			x.roam(t, next)
			x.hold(t)
		}
		x.settle(t)
	})
}

// P18.4: what is sure is had by a majority also if some nodes are never heard; with less than a majority nothing more is sure.
func TestSomeAreNeverHeard(t *testing.T) {
	for _, nodes := range views() {
		for silent := range len(nodes) {
			x := newTown(t, nodes, "a")
			for range 6 {
				x.propose(t)
			}
			for range 5 {
				for _, node := range nodes[1 : len(nodes)-silent] {
					x.write(node, 4)
					x.take(0, false)
					x.take(0, false)
				}
				x.hold(t)
			}
			if heard := len(nodes) - silent; 2*heard > len(nodes) {
				wantSure(t, x.first(), 7)
			} else {
				wantSure(t, x.first(), 1)
			}
		}
	}
}

// P18.4: a view that begins with the longest log of a majority of the one ahead, with another sequencer: what was sure stays where it is.
func TestViewBehindView(t *testing.T) {
	for seed := range uint32(200) {
		next := walk(seed + 7000)
		nodes := []int{0, 1, 2, 3, 4}[:3+next(3)]
		x := newTown(t, nodes)
		for range 3 {
			for range 60 {
				x.roam(t, next)
			}
			x.hold(t)
			y := newTown(t, nodes[1:], x.longest(nodes[1:])...)
			y.sure, y.count = x.sure, x.count
			y.hold(t)
			for range 20 {
				y.roam(t, next)
			}
			y.settle(t)
			x.sure, x.count, x.way, x.was = y.sure, y.count, nil, [api.MaxNodes]int{}
			for _, node := range nodes {
				x.orders[node] = begun(t, node, nodes, y.first().Log()...)
			}
			x.hold(t)
		}
	}
}

// longest is the longest log of some nodes.
func (x *town) longest(nodes []int) []string {
	var l []string
	for _, node := range nodes {
		if log := x.orders[node].Log(); len(log) > len(l) {
			l = log
		}
	}
	return l
}
