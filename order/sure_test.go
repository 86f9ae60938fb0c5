package order_test

import (
	"math"
	"slices"
	"testing"

	"carillon/api"
	"carillon/order"
)

// proposed tells the sequencer of a view that began with some texts, and has so many more.
func proposed(t *testing.T, nodes []int, ahead, more int) *order.Order {
	t.Helper()
	l := texts(ahead + more)
	o := begun(t, nodes[0], nodes, l[:ahead]...)
	for i, s := range l[ahead:] {
		wantPropose(t, o, s, ahead+i, api.OK)
	}
	return o
}

// P18.3: in each view, whichever nodes tell that they have a text, and in whatever row: it is sure when, with the sequencer, more than half have it; of an even number half are too few.
func TestSureOfMoreThanHalf(t *testing.T) {
	for _, nodes := range views() {
		for bits := range 1 << (len(nodes) - 1) {
			for _, back := range []bool{false, true} {
				o := proposed(t, nodes, 1, 2)
				have := 1
				for place := 1; place < len(nodes); place++ {
					at := place
					if back {
						at = len(nodes) - place
					}
					if bits>>(at-1)&1 == 1 {
						wantHas(t, o, nodes[at], 2, true)
						have++
					}
					switch {
					case len(nodes) == 1:
						wantSure(t, o, 3)
					case have > len(nodes)/2:
						wantSure(t, o, 2)
					default:
						wantSure(t, o, 1)
					}
				}
			}
		}
	}
}

// P18.3: of an even number of nodes just half, and one more; of an odd one just under half, and one more.
func TestJustHalf(t *testing.T) {
	for _, nodes := range fewViews() {
		need := map[int]int{1: 0, 2: 1, 3: 1, 4: 2, 5: 2, 6: 3, 7: 3}[len(nodes)]
		o := proposed(t, nodes, 0, 5)
		for i, node := range nodes[1:] {
			if i < need {
				wantSure(t, o, 0)
			}
			wantHas(t, o, node, 5, true)
			if i+1 >= need {
				wantSure(t, o, 5)
			}
		}
		wantSure(t, o, o.Len())
	}
}

// P18.3: all ways in which the nodes of a view may have some of four texts: so many are sure as more than half have.
func TestSureOfEachCounts(t *testing.T) {
	for _, nodes := range [][]int{{0}, {1, 6}, {0, 1, 2}, {0, 2, 3, 5}, {1, 2, 4, 5, 6}, {0, 1, 2, 3, 4, 5}} {
		many := 1
		for range nodes[1:] {
			many *= 5
		}
		for counts := range many {
			o := proposed(t, nodes, 0, 4)
			have := [5]int{4: 1} // how many nodes have just so many texts
			rest := counts
			for _, node := range nodes[1:] {
				wantHas(t, o, node, rest%5, true)
				have[rest%5]++
				rest /= 5
			}
			want, all := 4, have[4]
			for 2*all <= len(nodes) {
				want--
				all += have[want]
			}
			wantSure(t, o, want)
		}
	}
}

// P18.3: n of 0, what it had, less than that, Len(), one more, below 0; a node never has less than it had, nor than the view began with.
func TestHas(t *testing.T) {
	for _, nodes := range fewViews()[3:] {
		node := nodes[len(nodes)-1]
		o := proposed(t, nodes, 2, 3)
		l := texts(5)
		for _, step := range []struct {
			n, has int
			ok     bool
		}{
			{0, 2, true}, {1, 2, true}, {2, 2, true}, {-1, 2, false}, {6, 2, false}, {math.MinInt, 2, false}, {math.MaxInt, 2, false},
			{4, 4, true}, {3, 4, true}, {0, 4, true}, {4, 4, true}, {6, 4, false}, {-1, 4, false}, {5, 5, true}, {5, 5, true}, {0, 5, true}, {6, 5, false},
		} {
			was := state(o)
			wantHas(t, o, node, step.n, step.ok)
			wantWants(t, o, node, 9, step.has, l[step.has:]...)
			if !step.ok {
				same(t, "Has", o, was)
			}
			if len(nodes) < 4 {
				wantSure(t, o, step.has)
			} else {
				wantSure(t, o, 2)
			}
		}
		wantPropose(t, o, "more", 5, api.OK)
		wantWants(t, o, node, 9, 5, "more")
		wantHas(t, o, node, 6, true)
		wantWants(t, o, node, 9, 6)
	}
}

// P18.3: what is sure stays, whatever a node tells that comes late, and whatever is proposed then.
func TestSureStays(t *testing.T) {
	for _, nodes := range fewViews()[3:] {
		o := proposed(t, nodes, 1, 4)
		for _, node := range nodes[1:] {
			wantHas(t, o, node, 4, true)
		}
		for n := range 5 {
			for _, node := range nodes[1:] {
				wantHas(t, o, node, n, true)
				wantSure(t, o, 4)
			}
			wantPropose(t, o, "x", 5+n, api.OK)
			wantSure(t, o, 4)
		}
	}
}

// P18.3, P2: Has and Wants of self, of a node that is none of the view's, of a number that no node has.
func TestHasAndWantsOfOthers(t *testing.T) {
	for _, nodes := range views() {
		o := proposed(t, nodes, 1, 2)
		was := state(o)
		wrong := append(noNodes(), nodes[0])
		for node := range api.MaxNodes {
			if !slices.Contains(nodes, node) {
				wrong = append(wrong, node)
			}
		}
		for _, node := range wrong {
			for _, n := range []int{-1, 0, 1, 2, 3, 4} {
				wantHas(t, o, node, n, false)
				wantWants(t, o, node, n, -1)
			}
		}
		same(t, "Has", o, was)
	}
}

// P18.3, P2: Has and Wants at another node than the sequencer, of each node.
func TestHasAndWantsAtAnotherNode(t *testing.T) {
	for _, nodes := range views() {
		for _, self := range nodes[1:] {
			o := begun(t, self, nodes, "a")
			wantAdd(t, o, 1, "b", true)
			was := state(o)
			for node := -1; node <= api.MaxNodes; node++ {
				for _, n := range []int{-1, 0, 1, 2, 3} {
					wantHas(t, o, node, n, false)
					wantWants(t, o, node, n, -1)
				}
			}
			same(t, "Has", o, was)
		}
	}
}

// P18.3: at another node n with Sure(), less, one more, Len(), beyond Len(); each time that more are sure by it.
func TestLearn(t *testing.T) {
	for _, nodes := range views() {
		for _, self := range nodes[1:] {
			o := begun(t, self, nodes, texts(2)...)
			for _, step := range []struct{ texts, n, sure int }{
				{2, 3, 2}, {2, 2, 2}, {2, 1, 2}, {2, 0, 2}, {2, -1, 2}, {2, math.MinInt, 2}, {2, math.MaxInt, 2},
				{6, 2, 2}, {6, 1, 2}, {6, -1, 2}, {6, 3, 3}, {6, 3, 3}, {6, 2, 3}, {6, 5, 5}, {6, 4, 5}, {6, 9, 6}, {6, 9, 6}, {6, 6, 6}, {6, 7, 6},
				{7, 6, 6}, {7, 7, 7}, {9, math.MaxInt, 9}, {9, 10, 9}, {9, 0, 9}, {12, 11, 11}, {12, 12, 12}, {12, 13, 12}, {14, 15, 14},
			} {
				for i := o.Len(); i < step.texts; i++ {
					wantAdd(t, o, i, "x", true)
				}
				was := state(o)
				ok := step.sure > o.Sure()
				wantLearn(t, o, step.n, ok)
				wantSure(t, o, step.sure)
				if !ok {
					same(t, "Learn", o, was)
				}
			}
		}
	}
}

// P18.3, P2: at the sequencer nothing is learned.
func TestLearnAtTheSequencer(t *testing.T) {
	for _, nodes := range views() {
		o := proposed(t, nodes, 1, 2)
		was := state(o)
		for _, n := range []int{-1, 0, 1, 2, 3, 4, math.MaxInt, math.MinInt} {
			wantLearn(t, o, n, false)
		}
		same(t, "Learn", o, was)
	}
}

// P18.3: most of 0, below 0, just so many as there are, less, more; from each place on.
func TestWants(t *testing.T) {
	for _, nodes := range fewViews()[3:] {
		for _, node := range nodes[1:] {
			o := proposed(t, nodes, 1, 4)
			l := texts(5)
			for from := 1; from <= 5; from++ {
				wantHas(t, o, node, from, true)
				for _, most := range []int{0, -1, -5, math.MinInt} {
					wantWants(t, o, node, most, from)
				}
				for most := range 5 - from {
					wantWants(t, o, node, most, from, l[from:from+most]...)
				}
				for _, most := range []int{5 - from, 6 - from, 5, 100, math.MaxInt} {
					wantWants(t, o, node, most, from, l[from:]...)
				}
			}
		}
	}
}

// P18.3: each node has its own count, and wants its own texts.
func TestWantsOfSeveral(t *testing.T) {
	nodes := []int{0, 1, 2, 3, 4, 5, 6}
	o := proposed(t, nodes, 0, 10)
	l := texts(10)
	for node := 1; node < 7; node++ {
		wantHas(t, o, node, node+2, true)
	}
	for node := 1; node < 7; node++ {
		wantWants(t, o, node, 4, node+2, l[node+2:min(node+6, 10)]...)
	}
	wantSure(t, o, 6)
}
