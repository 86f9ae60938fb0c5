package order_test

import (
	"math"
	"slices"
	"testing"

	"carillon/api"
	"carillon/order"
)

// P18.1 to P18.3: the chapter's examples, line by line.
func TestExamples(t *testing.T) {
	first, other := begun(t, 0, []int{0, 1, 2}, "a"), begun(t, 1, []int{0, 1, 2}, "a")
	wantPropose(t, first, "b", 1, api.OK)
	wantSure(t, first, 1)
	wantWants(t, first, 1, 9, 1, "b")
	wantAdd(t, other, 2, "x", false)
	wantAdd(t, other, 1, "b", true)
	wantLog(t, other, "a", "b")
	wantHas(t, first, 1, 2, true)
	wantSure(t, first, 2)
	wantLearn(t, other, 2, true)
	wantSure(t, other, 2)
}

// P18.1: of each view, at each of its nodes, with logs of several lengths: all of the log is sure, and had by all.
func TestNew(t *testing.T) {
	for _, nodes := range views() {
		for _, self := range nodes {
			for _, many := range []int{0, 1, 2, 7} {
				log := texts(many)
				o := begun(t, self, nodes, log...)
				wantLog(t, o, log...)
				wantSure(t, o, many)
				if o.First() != (self == slices.Min(nodes)) {
					t.Errorf("%d of %v: First %v", self, nodes, o.First())
				}
				for node := range api.MaxNodes {
					if o.First() && node != self && slices.Contains(nodes, node) {
						wantWants(t, o, node, 9, many)
					} else {
						wantWants(t, o, node, 9, -1)
					}
				}
			}
		}
	}
}

// wantNoNew asks that there is none.
func wantNoNew(t *testing.T, self int, nodes []int) {
	t.Helper()
	for _, log := range [][]string{nil, {"a"}} {
		if o, e := order.New(self, nodes, log); o != nil || e != api.ErrArg {
			t.Errorf("New(%d, %v): %v, %d", self, nodes, o, e)
		}
	}
}

// P18.1, P2: no nodes, too many, numbers that no node has, that do not rise, that come twice; in each place.
func TestNewOfWrongNodes(t *testing.T) {
	wrong := [][]int{nil, {}, {0, 1, 2, 3, 4, 5, 6, 7}, {0, 1, 2, 3, 4, 5, 6, 6}, {0, 0, 1, 2, 3, 4, 5, 6}, {0, 1, 2, 3, 3, 4, 5, 6}, make([]int, 1000)}
	for _, nodes := range fewViews() {
		for i, node := range nodes {
			wrong = append(wrong, slices.Insert(slices.Clone(nodes), i, node))
			if i > 0 {
				l := slices.Clone(nodes)
				l[i-1], l[i] = l[i], l[i-1]
				wrong = append(wrong, l)
			}
			for _, none := range noNodes() {
				l := slices.Clone(nodes)
				l[i] = none
				wrong = append(wrong, l, slices.Insert(slices.Clone(nodes), i, none), append(slices.Clone(nodes), none))
			}
		}
	}
	for _, nodes := range wrong {
		wantNoNew(t, 0, nodes)
		for _, self := range nodes {
			wantNoNew(t, self, nodes)
		}
	}
}

// P18.1, P2: a self that is none of the nodes.
func TestNewOfASelfThatIsNone(t *testing.T) {
	for _, nodes := range views() {
		for self := range api.MaxNodes {
			if !slices.Contains(nodes, self) {
				wantNoNew(t, self, nodes)
			}
		}
		for _, self := range noNodes() {
			wantNoNew(t, self, nodes)
		}
	}
}

// P18.1: a text counts as its bytes and four, also of no bytes, of bytes of all kinds, of many.
func TestBytes(t *testing.T) {
	for _, l := range [][]string{{""}, {"", ""}, {"a"}, {"a", "", "bcd"}, {"\x00\xff", "é"}, {size("x", 30000)}, texts(1000)} {
		wantLog(t, begun(t, 2, []int{2, 3}, l...), l...)
		first, other := begun(t, 2, []int{2, 3}), begun(t, 3, []int{2, 3})
		for i, s := range l {
			wantPropose(t, first, s, i, api.OK)
			wantAdd(t, other, i, s, true)
			if i < 5 || i == len(l)-1 {
				wantLog(t, first, l[:i+1]...)
				wantLog(t, other, l[:i+1]...)
			}
		}
	}
}

// P18.1, P18.2: a log that a view begins with may count MaxLog and more; it is as it is, and has no room.
func TestNewOfAGreatLog(t *testing.T) {
	for _, l := range [][]string{{filling(nil)}, {filling([]string{"a"}), "a"}, {size("x", api.MaxLog)}, {size("x", 3*api.MaxLog), "y"}, texts(20000)} {
		first, other := begun(t, 0, []int{0, 1}, l...), begun(t, 1, []int{0, 1}, l...)
		for _, s := range []string{"", "z", size("z", 100000)} {
			wantPropose(t, first, s, 0, api.ErrFull)
			wantAdd(t, other, len(l), s, false)
		}
		for _, o := range []*order.Order{first, other} {
			wantLog(t, o, l...)
			wantSure(t, o, len(l))
		}
	}
}

// P18.2: at the sequencer of each view, whatever its log was: the places go on from its end; nothing is sure of more than one node.
func TestPropose(t *testing.T) {
	for _, nodes := range views() {
		for _, many := range []int{0, 1, 3} {
			log := texts(many)
			o := begun(t, nodes[0], nodes, log...)
			for i, s := range []string{"x", "", "x", size("y", 500)} {
				wantPropose(t, o, s, many+i, api.OK)
				log = append(log, s)
				wantLog(t, o, log...)
				if len(nodes) == 1 {
					wantSure(t, o, many+i+1)
				} else {
					wantSure(t, o, many)
				}
				for _, node := range nodes[1:] {
					wantWants(t, o, node, 9, many, log[many:]...)
				}
			}
		}
	}
}

// P18.2, P2: at another node than the sequencer nothing is proposed, also where it would be too much.
func TestProposeAtAnotherNode(t *testing.T) {
	for _, nodes := range views() {
		for _, self := range nodes[1:] {
			o := begun(t, self, nodes, "a")
			was := state(o)
			for _, s := range []string{"", "b", size("x", api.MaxLog)} {
				wantPropose(t, o, s, 0, api.ErrOrder)
			}
			same(t, "Propose", o, was)
			wantAdd(t, o, 1, "b", true)
		}
	}
}

// logsOfRoom are logs with less and less room.
func logsOfRoom() [][]string {
	return [][]string{nil, {"a"}, {"", "bc"}, texts(50), {size("x", 44900)}, {size("x", api.MaxLog-4-4-1)}, {size("x", api.MaxLog-4-4)}}
}

// P18.2: with s the log may count just MaxLog; not a byte more, and nothing has changed behind that; not even a text of no bytes then.
func TestProposeOfALogThatIsFull(t *testing.T) {
	for _, log := range logsOfRoom() {
		for _, nodes := range fewViews() {
			o := begun(t, nodes[0], nodes, log...)
			was := state(o)
			for _, more := range []string{"x", "xy", size("x", 4), size("x", 100000)} {
				wantPropose(t, o, filling(log)+more, 0, api.ErrFull)
			}
			same(t, "Propose", o, was)
			wantPropose(t, o, filling(log), len(log), api.OK)
			wantLog(t, o, append(slices.Clone(log), filling(log))...)
			if o.Bytes() != 45000 {
				t.Errorf("Bytes %d", o.Bytes())
			}
			was = state(o)
			wantPropose(t, o, "", 0, api.ErrFull)
			wantPropose(t, o, "a", 0, api.ErrFull)
			same(t, "Propose", o, was)
		}
	}
}

// P18.2: likewise at another node, of the sequencer's text.
func TestAddOfALogThatIsFull(t *testing.T) {
	for _, log := range logsOfRoom() {
		for _, nodes := range fewViews() {
			for _, self := range nodes[1:] {
				o := begun(t, self, nodes, log...)
				was := state(o)
				for _, more := range []string{"x", "xy", size("x", 4), size("x", 100000)} {
					wantAdd(t, o, len(log), filling(log)+more, false)
				}
				same(t, "Add", o, was)
				wantAdd(t, o, len(log), filling(log), true)
				wantLog(t, o, append(slices.Clone(log), filling(log))...)
				was = state(o)
				wantAdd(t, o, len(log)+1, "", false)
				wantAdd(t, o, len(log)+1, "a", false)
				same(t, "Add", o, was)
			}
		}
	}
}

// P18.2: just so many texts of no bytes as four go into MaxLog.
func TestTextsOfNoBytesFill(t *testing.T) {
	first, other := begun(t, 0, []int{0, 1}), begun(t, 1, []int{0, 1})
	for i := range api.MaxLog / 4 {
		wantPropose(t, first, "", i, api.OK)
		wantAdd(t, other, i, "", true)
	}
	wantPropose(t, first, "", 0, api.ErrFull)
	wantAdd(t, other, api.MaxLog/4, "", false)
	if first.Bytes() != 45000 || other.Len() != 11250 {
		t.Errorf("%d, %d", first.Bytes(), other.Len())
	}
}

// P18.2: at each other node of each view a text is added at the place that is the next, and at no other one; what is refused changes nothing, and nothing is sure by it.
func TestAdd(t *testing.T) {
	for _, nodes := range views() {
		for _, self := range nodes[1:] {
			for _, many := range []int{0, 1, 3} {
				log := texts(many)
				o := begun(t, self, nodes, log...)
				for _, s := range []string{"x", "", "x", "y"} {
					was := state(o)
					for _, i := range []int{-1, -2, 0, 1, 2, 3, len(log) - 1, len(log) + 1, len(log) + 2, math.MinInt, math.MaxInt, len(log) + 1<<32, -len(log)} {
						if i != len(log) {
							wantAdd(t, o, i, s, false)
						}
					}
					same(t, "Add", o, was)
					wantAdd(t, o, len(log), s, true)
					wantAdd(t, o, len(log), s, false)
					log = append(log, s)
					wantLog(t, o, log...)
					wantSure(t, o, many)
				}
			}
		}
	}
}

// P18.2, P2: at the sequencer nothing is added, at no place.
func TestAddAtTheSequencer(t *testing.T) {
	for _, nodes := range views() {
		o := begun(t, nodes[0], nodes, "a")
		wantPropose(t, o, "b", 1, api.OK)
		was := state(o)
		for _, i := range []int{-1, 0, 1, 2, 3, math.MaxInt, math.MinInt} {
			for _, s := range []string{"", "b", "c"} {
				wantAdd(t, o, i, s, false)
			}
		}
		same(t, "Add", o, was)
		wantPropose(t, o, "c", 2, api.OK)
	}
}
