package proposer_test

import (
	"math"
	"testing"

	"carillon/api"
	"carillon/proposer"
)

// P11.1 to P11.3: the chapter's examples, line by line.
func TestExamples(t *testing.T) {
	b := bal(1, 0)
	p := begun(t, b, 0, 1, 2)
	wantTell(t, p, "x", "", api.ErrFew)
	wantPromise(t, p, 0, free(b), true)
	wantPromise(t, p, 1, free(b), true)
	wantTell(t, p, "x", "x", api.OK)

	wantTaken(t, p, 0, true)
	wantTaken(t, p, 0, false)
	wantTaken(t, p, 2, true)
	wantStands(t, p, proposer.Decided, "x", 1)

	wantPromise(t, p, 1, free(bal(2, 0)), false)
	wantPromise(t, begun(t, b, 0, 1, 2), 1, free(bal(2, 0)), false)
}

// P11.3: the states are these numbers.
func TestStates(t *testing.T) {
	if proposer.Asking != 0 || proposer.Telling != 1 || proposer.Decided != 2 {
		t.Error(proposer.Asking, proposer.Telling, proposer.Decided)
	}
}

func wantNoNew(t *testing.T, b api.Ballot, nodes []int) {
	t.Helper()
	if p, e := proposer.New(b, nodes); p != nil || e != api.ErrArg {
		t.Errorf("New(%v, %v): %v, %d", b, nodes, p, e)
	}
}

// P11.1: the edges of a ballot, and all numbers of nodes, in any order; it is Asking all of them.
func TestNew(t *testing.T) {
	for _, b := range []api.Ballot{bal(1, 0), bal(1, 6), bal(2, 1), bal(great, 0), bal(great, 6)} {
		for n := 1; n <= api.MaxNodes; n++ {
			var up, down, last []int
			for i := range n {
				up, down, last = append(up, i), append(down, n-1-i), append(last, api.MaxNodes-n+i)
			}
			wantStands(t, begun(t, b, up...), proposer.Asking, "", up...)
			wantStands(t, begun(t, b, down...), proposer.Asking, "", up...)
			wantStands(t, begun(t, b, last...), proposer.Asking, "", last...)
		}
	}
	wantStands(t, begun(t, bal(1, 0), 5, 2, 6, 0), proposer.Asking, "", 0, 2, 5, 6)
	wantStands(t, begun(t, bal(1, 3), 4), proposer.Asking, "", 4) // the ballot's Node need be none of the nodes
}

// P11.1: a ballot that is not right, and none.
func TestNewOfWrongBallots(t *testing.T) {
	for _, b := range append(wrongBallots(), bal(0, 0)) {
		wantNoNew(t, b, []int{0})
		wantNoNew(t, b, []int{2, 0, 1})
		wantNoNew(t, b, nil)
	}
}

// P11.1: no nodes, more than MaxNodes, numbers that no node has, and nodes that are there twice.
func TestNewOfWrongNodes(t *testing.T) {
	b := bal(1, 0)
	for _, nodes := range [][]int{
		nil, {}, {0, 1, 2, 3, 4, 5, 6, 7}, {0, 1, 2, 3, 4, 5, 6, 0}, {0, 1, 2, 3, 4, 5, 6, -1}, {6, 5, 4, 3, 2, 1, 0, 6},
		{0, 0}, {6, 6}, {0, 1, 0}, {1, 0, 0}, {3, 3, 1}, {0, 1, 2, 3, 4, 5, 0}, {0, 1, 2, 3, 4, 5, 5}, {0, 0, 0, 0, 0, 0, 0},
		make([]int, 1000),
	} {
		wantNoNew(t, b, nodes)
	}
	for _, none := range noNodes() {
		wantNoNew(t, b, []int{none})
		wantNoNew(t, b, []int{none, 0})
		wantNoNew(t, b, []int{1, 2, none})
		wantNoNew(t, b, []int{0, none, 3})
	}
}

// P11.1, P3: the nodes are not kept: those that were handed in may change behind New.
func TestNodesAreNotKept(t *testing.T) {
	b := bal(1, 0)
	room := []int{2, 0, 1, 9}
	nodes := room[:3]
	p, e := proposer.New(b, nodes)
	if e != api.OK || room[0] != 2 || room[1] != 0 || room[2] != 1 || room[3] != 9 {
		t.Errorf("%d; handed in: %v", e, room)
	}
	for i := range room {
		room[i] = 5
	}
	wantStands(t, p, proposer.Asking, "", 0, 1, 2)
	wantPromise(t, p, 5, free(b), false)
	wantPromise(t, p, 2, free(b), true)
	wantPromise(t, p, 0, free(b), true)
	clear(room)
	wantTell(t, p, "x", "x", api.OK)
	wantTaken(t, p, 5, false)
	wantTaken(t, p, 1, true)
	wantStands(t, p, proposer.Telling, "x", 0, 2)
}

// P11.1 to P11.3: of each number of nodes half are too few, and one more is a majority, of promises and of what was taken.
func TestMajority(t *testing.T) {
	b := bal(3, 2)
	for n, most := range []int{1: 1, 2: 2, 3: 2, 4: 3, 5: 3, 6: 4, 7: 4} {
		if n == 0 {
			continue
		}
		var nodes []int
		for i := range n {
			nodes = append(nodes, i)
		}
		p := begun(t, b, nodes...)
		for i := range most {
			wantTell(t, p, "x", "", api.ErrFew)
			wantStands(t, p, proposer.Asking, "", nodes[i:]...)
			wantPromise(t, p, i, free(b), true)
		}
		wantStands(t, p, proposer.Asking, "", nodes[most:]...)
		wantTell(t, p, "x", "x", api.OK)
		for i := range n {
			state := proposer.Telling
			if i >= most {
				state = proposer.Decided
			}
			wantStands(t, p, state, "x", nodes[i:]...)
			wantTaken(t, p, i, true)
		}
		wantStands(t, p, proposer.Decided, "x")
	}
}

// P11.2: more than a majority may promise, up to all, till it is told.
func TestMoreThanAMajority(t *testing.T) {
	b := bal(2, 0)
	p := begun(t, b, 4, 3, 2, 1, 0)
	for node := range 5 {
		wantPromise(t, p, node, free(b), true)
	}
	wantStands(t, p, proposer.Asking, "")
	wantTell(t, p, "x", "x", api.OK)
	wantStands(t, p, proposer.Telling, "x", 0, 1, 2, 3, 4)
}

// P11.2: what those who promised had taken, in the order in which they promise, and the value that is told then.
func TestWhichValue(t *testing.T) {
	b, none := bal(5, 3), bal(0, 0)
	for _, c := range []struct {
		name  string
		heard []api.Acceptor
		want  string
	}{
		{"nobody", []api.Acceptor{free(b), free(b)}, "own"},
		{"nobody of three", []api.Acceptor{free(b), free(b), free(b)}, "own"},
		{"one, first", []api.Acceptor{acc(b, bal(1, 0), "a"), free(b)}, "a"},
		{"one, last", []api.Acceptor{free(b), acc(b, bal(1, 0), "a")}, "a"},
		{"one, between", []api.Acceptor{free(b), acc(b, bal(1, 0), "a"), free(b)}, "a"},
		{"one, a value of nothing", []api.Acceptor{free(b), acc(b, bal(1, 0), "")}, ""},
		{"nothing is greater", []api.Acceptor{acc(b, bal(2, 0), ""), acc(b, bal(1, 6), "a")}, ""},
		{"nothing is greater, last", []api.Acceptor{acc(b, bal(1, 6), "a"), acc(b, bal(2, 0), "")}, ""},
		{"nothing is less", []api.Acceptor{acc(b, bal(2, 0), ""), acc(b, bal(2, 1), "a")}, "a"},
		{"full", []api.Acceptor{free(b), acc(b, bal(1, 0), full)}, full},
		{"its own ballot", []api.Acceptor{acc(b, b, "a"), acc(b, bal(5, 2), "b")}, "a"},
		{"one Taken twice", []api.Acceptor{acc(b, bal(2, 1), "a"), acc(b, bal(2, 1), "a")}, "a"},
		{"one Taken, the first", []api.Acceptor{acc(b, bal(2, 1), "b"), acc(b, bal(2, 1), "a")}, "b"},
		{"one Taken, the first again", []api.Acceptor{acc(b, bal(2, 1), "a"), acc(b, bal(2, 1), "b")}, "a"},
		{"one Taken, nothing first", []api.Acceptor{acc(b, bal(2, 1), ""), acc(b, bal(2, 1), "a")}, ""},
		{"one Taken, nothing last", []api.Acceptor{acc(b, bal(2, 1), "a"), acc(b, bal(2, 1), "")}, "a"},
		{"one Taken behind a less one", []api.Acceptor{acc(b, bal(1, 1), "c"), acc(b, bal(2, 1), "b"), acc(b, bal(2, 1), "a")}, "b"},
		{"one Taken around a less one", []api.Acceptor{acc(b, bal(2, 1), "b"), acc(b, bal(1, 1), "c"), acc(b, bal(2, 1), "a")}, "b"},
		{"the greatest first", []api.Acceptor{acc(b, bal(4, 0), "c"), acc(b, bal(1, 0), "a"), acc(b, bal(3, 6), "b")}, "c"},
		{"the greatest last", []api.Acceptor{acc(b, bal(3, 6), "b"), acc(b, bal(1, 0), "a"), acc(b, bal(4, 0), "c")}, "c"},
		{"the greatest between", []api.Acceptor{acc(b, bal(1, 0), "a"), acc(b, bal(4, 0), "c"), acc(b, bal(3, 6), "b")}, "c"},
		{"the Node counts", []api.Acceptor{acc(b, bal(2, 1), "a"), acc(b, bal(2, 3), "c"), acc(b, bal(2, 2), "b")}, "c"},
		{"the Round counts first", []api.Acceptor{acc(b, bal(2, 6), "a"), acc(b, bal(3, 0), "c"), acc(b, none, "")}, "c"},
	} {
		// Whichever nodes they are: the order in which they promise is what counts.
		for _, nodes := range [][]int{{0, 1, 2}, {2, 1, 0}, {1, 2, 0}} {
			p := begun(t, b, 0, 1, 2)
			for i, a := range c.heard {
				wantPromise(t, p, nodes[i], a, true)
			}
			wantStands(t, p, proposer.Asking, "", nodes[len(c.heard):]...)
			if s, e := p.Tell("own"); s != c.want || e != api.OK {
				t.Errorf("%s: %s, %d; want %s", c.name, brief(s), e, brief(c.want))
			}
			wantStands(t, p, proposer.Telling, c.want, 0, 1, 2)
		}
	}
}

// P11.2: what a node brings that promises behind a refused Tell still counts.
func TestLaterPromises(t *testing.T) {
	b := bal(5, 0)
	p := begun(t, b, 0, 1, 2, 3)
	wantPromise(t, p, 3, acc(b, bal(1, 0), "a"), true)
	wantTell(t, p, "own", "", api.ErrFew)
	wantPromise(t, p, 1, acc(b, bal(3, 0), "b"), true)
	wantTell(t, p, "own", "", api.ErrFew)
	wantPromise(t, p, 0, acc(b, bal(2, 0), "c"), true)
	wantPromise(t, p, 2, acc(b, bal(4, 0), "d"), true)
	wantTell(t, p, "own", "d", api.OK)
}

// P11.2: an own of nothing and of MaxText bytes is told.
func TestOwn(t *testing.T) {
	for _, own := range []string{"", "x", "\x00\xff", full} {
		p := told(t, bal(1, 0), own, 0, 1, 2)
		wantStands(t, p, proposer.Telling, own, 0, 1, 2)
		wantTell(t, p, own+"y", own, api.OK)
		wantTaken(t, p, 0, true)
		wantTaken(t, p, 1, true)
		wantTell(t, p, "", own, api.OK)
		wantStands(t, p, proposer.Decided, own, 2)
	}
}

// P11.2: an own of more than MaxText bytes is refused, if it would be the value; nothing has changed then.
func TestOwnThatIsLong(t *testing.T) {
	b := bal(2, 0)
	p := begun(t, b, 0, 1, 2)
	wantTell(t, p, long, "", api.ErrFew) // ErrFew is named first
	wantPromise(t, p, 0, free(b), true)
	wantTell(t, p, long, "", api.ErrFew)
	wantPromise(t, p, 1, free(b), true)
	wantTell(t, p, long, "", api.ErrLong)
	wantTell(t, p, long+long, "", api.ErrLong)
	wantStands(t, p, proposer.Asking, "", 2)
	wantTaken(t, p, 0, false)
	wantTell(t, p, full, full, api.OK)
	wantTell(t, p, long, full, api.OK)
	wantStands(t, p, proposer.Telling, full, 0, 1, 2)
}

// P11.2: an own of more than MaxText bytes is no fault, if it would not be the value.
func TestOwnThatIsLongAndNotTheValue(t *testing.T) {
	b := bal(2, 0)
	for _, value := range []string{"", "a", full} {
		p := begun(t, b, 0, 1, 2)
		wantPromise(t, p, 0, free(b), true)
		wantPromise(t, p, 1, acc(b, bal(1, 0), value), true)
		wantTell(t, p, long, value, api.OK)
		wantStands(t, p, proposer.Telling, value, 0, 1, 2)
	}
	p := begun(t, b, 0, 1, 2)
	wantPromise(t, p, 0, free(b), true)
	wantPromise(t, p, 1, free(b), true)
	wantTell(t, p, long, "", api.ErrLong)
	wantPromise(t, p, 2, acc(b, bal(1, 0), ""), true)
	wantTell(t, p, long, "", api.OK)
	wantStands(t, p, proposer.Telling, "", 0, 1, 2)
}

// P11.2: told again the value is the same, whatever own is, in both states.
func TestToldAgain(t *testing.T) {
	b := bal(2, 0)
	p := begun(t, b, 0, 1)
	wantPromise(t, p, 0, acc(b, bal(1, 3), "a"), true)
	wantPromise(t, p, 1, free(b), true)
	for range 3 {
		for _, own := range []string{"own", "", "a", full, long} {
			wantTell(t, p, own, "a", api.OK)
		}
		p.Taken(0)
		wantTell(t, p, "b", "a", api.OK)
		p.Taken(1)
	}
	wantStands(t, p, proposer.Decided, "a")
}

// P11.2: a node that is none of the nodes, and one that has promised.
func TestPromiseOfWrongNodes(t *testing.T) {
	b := bal(2, 0)
	p := begun(t, b, 5, 1, 3)
	for _, node := range append(noNodes(), 0, 2, 4, 6) {
		wantPromise(t, p, node, free(b), false)
		wantPromise(t, p, node, acc(b, bal(1, 0), "a"), false)
	}
	wantStands(t, p, proposer.Asking, "", 1, 3, 5)
	wantPromise(t, p, 3, free(b), true)
	wantPromise(t, p, 3, free(b), false)
	wantPromise(t, p, 3, acc(b, bal(1, 0), "a"), false)
	wantStands(t, p, proposer.Asking, "", 1, 5)
	wantTell(t, p, "own", "", api.ErrFew)
	wantPromise(t, p, 1, free(b), true)
	wantTell(t, p, "own", "own", api.OK) // what was refused brought no value
}

// P11.2: an acceptor that is not right does not count, and brings no value; its node may promise then.
func TestPromiseOfWrongAcceptors(t *testing.T) {
	for _, b := range []api.Ballot{bal(1, 0), bal(2, 1), bal(7, 6), bal(great-1, 2)} {
		p := begun(t, b, 0, 1, 2)
		for _, a := range wrongAcceptors(b) {
			wantPromise(t, p, 0, a, false)
			wantPromise(t, p, 2, a, false)
		}
		wantStands(t, p, proposer.Asking, "", 0, 1, 2)
		wantPromise(t, p, 0, free(b), true)
		for _, a := range wrongAcceptors(b) {
			wantPromise(t, p, 1, a, false)
		}
		wantTell(t, p, "own", "", api.ErrFew)
		wantPromise(t, p, 1, free(b), true)
		wantTell(t, p, "own", "own", api.OK)
	}
}

// P11.2: an acceptor whose Promised is another ballot, less or greater, or none, does not count.
func TestPromiseOfOtherBallots(t *testing.T) {
	b := bal(3, 3)
	p := begun(t, b, 0, 1, 2)
	others := append(wrongBallots(), bal(0, 0), bal(3, 2), bal(3, 4), bal(2, 3), bal(4, 3), bal(1, 0), bal(great, 6), bal(3, 0), bal(3, 6))
	for _, other := range others {
		for _, a := range []api.Acceptor{free(other), acc(other, other, "a"), acc(other, bal(1, 0), "a"), acc(other, b, "a"), acc(other, bal(0, 0), "a")} {
			wantPromise(t, p, 0, a, false)
		}
	}
	wantStands(t, p, proposer.Asking, "", 0, 1, 2)
	wantPromise(t, p, 0, free(b), true)
	wantTell(t, p, "own", "", api.ErrFew)
}

// P11.2: who is Telling or Decided takes no promise any more, of a node that has promised or has not.
func TestPromiseThatIsLate(t *testing.T) {
	b := bal(3, 0)
	p := begun(t, b, 0, 1, 2)
	wantPromise(t, p, 0, free(b), true)
	wantPromise(t, p, 1, free(b), true)
	wantTell(t, p, "own", "own", api.OK)
	late := func(state int, missing ...int) {
		t.Helper()
		for node := range 3 {
			wantPromise(t, p, node, free(b), false)
			wantPromise(t, p, node, acc(b, bal(1, 0), "a"), false)
			wantPromise(t, p, node, acc(b, b, "a"), false)
		}
		wantTell(t, p, "a", "own", api.OK)
		wantStands(t, p, state, "own", missing...)
	}
	late(proposer.Telling, 0, 1, 2)
	wantTaken(t, p, 2, true)
	late(proposer.Telling, 0, 1)
	wantTaken(t, p, 0, true)
	late(proposer.Decided, 1)
	wantTaken(t, p, 1, true)
	late(proposer.Decided)
}

// P11.3: nodes that promised, and nodes that did not, are counted alike.
func TestTakenByWhomever(t *testing.T) {
	b := bal(3, 0)
	p := begun(t, b, 4, 0, 6, 2, 1)
	for _, node := range []int{6, 0, 1} {
		wantPromise(t, p, node, free(b), true)
	}
	wantTell(t, p, "own", "own", api.OK)
	wantStands(t, p, proposer.Telling, "own", 0, 1, 2, 4, 6)
	wantTaken(t, p, 4, true) // has not promised
	wantStands(t, p, proposer.Telling, "own", 0, 1, 2, 6)
	wantTaken(t, p, 2, true) // has not promised
	wantStands(t, p, proposer.Telling, "own", 0, 1, 6)
	wantTaken(t, p, 6, true) // has promised
	wantStands(t, p, proposer.Decided, "own", 0, 1)
	wantTaken(t, p, 1, true)
	wantTaken(t, p, 0, true)
	wantStands(t, p, proposer.Decided, "own")
}

// P11.3: a node that is none of the nodes, and one that was counted, when it is Telling and when it is Decided.
func TestTakenByWrongNodes(t *testing.T) {
	b := bal(3, 0)
	p := told(t, b, "own", 5, 1, 3)
	strangers := func() {
		t.Helper()
		for _, node := range append(noNodes(), 0, 2, 4, 6) {
			wantTaken(t, p, node, false)
		}
	}
	strangers()
	wantStands(t, p, proposer.Telling, "own", 1, 3, 5)
	wantTaken(t, p, 5, true)
	wantTaken(t, p, 5, false)
	strangers()
	wantStands(t, p, proposer.Telling, "own", 1, 3)
	wantTaken(t, p, 1, true)
	wantTaken(t, p, 5, false)
	wantTaken(t, p, 1, false)
	strangers()
	wantStands(t, p, proposer.Decided, "own", 3)
	wantTaken(t, p, 3, true)
	wantTaken(t, p, 3, false)
	strangers()
	wantStands(t, p, proposer.Decided, "own")
}

// P11.3: who is Asking counts nothing as taken, and has no value, whatever was promised.
func TestTakenWhileAsking(t *testing.T) {
	b := bal(3, 0)
	p := begun(t, b, 0, 1, 2)
	for node := range 3 {
		for _, other := range append(noNodes(), 0, 1, 2, 3) {
			wantTaken(t, p, other, false)
		}
		wantStands(t, p, proposer.Asking, "", []int{0, 1, 2}[node:]...)
		wantPromise(t, p, node, acc(b, bal(1, 0), "a"), true)
	}
	wantStands(t, p, proposer.Asking, "")
	wantTell(t, p, "own", "a", api.OK)
	wantStands(t, p, proposer.Telling, "a", 0, 1, 2)
}

// P11.1 to P11.3: one node, and it is none of the ballot's.
func TestOneNode(t *testing.T) {
	b := bal(great, 6)
	p := begun(t, b, 3)
	wantTell(t, p, "own", "", api.ErrFew)
	wantPromise(t, p, 6, free(b), false)
	wantPromise(t, p, 3, acc(b, bal(great, 5), "a"), true)
	wantTell(t, p, "own", "a", api.OK)
	wantTaken(t, p, 6, false)
	wantStands(t, p, proposer.Telling, "a", 3)
	wantTaken(t, p, 3, true)
	wantStands(t, p, proposer.Decided, "a")
}

// P11.2, P11.3: numbers of nodes that are the same but for their greater bits are others.
func TestNodesAreWholeNumbers(t *testing.T) {
	b := bal(1, 0)
	p := begun(t, b, 0, 1)
	for _, beyond := range []int{1 << 8, 1 << 16, 1 << 32, math.MinInt} {
		wantPromise(t, p, beyond, free(b), false)
		wantPromise(t, p, beyond+1, free(b), false)
	}
	p = told(t, b, "x", 0, 1)
	for _, beyond := range []int{1 << 8, 1 << 16, 1 << 32, math.MinInt} {
		wantTaken(t, p, beyond, false)
		wantTaken(t, p, beyond+1, false)
	}
	wantStands(t, p, proposer.Telling, "x", 0, 1)
}
