package net_test

import (
	"math"
	"testing"

	"carillon/api"
	"carillon/net"
)

// wantJoined holds who is joined against the parts of a net, each told by its nodes.
func wantJoined(t *testing.T, x *net.Net, parts ...[]int) {
	t.Helper()
	part := map[int]int{}
	for i, nodes := range parts {
		for _, k := range nodes {
			part[k] = i
		}
	}
	if len(part) != x.Nodes() {
		t.Fatalf("parts %v of %d nodes", parts, x.Nodes())
	}
	for a := range x.Nodes() {
		for b := range x.Nodes() {
			if got, want := x.Joined(a, b), part[a] == part[b]; got != want {
				t.Errorf("parts %v: Joined(%d, %d): %v", parts, a, b, got)
			}
		}
	}
}

// P5.3: two nodes are joined, if both are of the side, or both are not.
func TestCut(t *testing.T) {
	x := made(t, 5)
	wantJoined(t, x, []int{0, 1, 2, 3, 4})
	x.Cut(1)
	wantJoined(t, x, []int{0}, []int{1, 2, 3, 4})
	x.Cut(2)
	wantJoined(t, x, []int{1}, []int{0, 2, 3, 4})
	x.Cut(16)
	wantJoined(t, x, []int{4}, []int{0, 1, 2, 3})
	x.Cut(1 + 4 + 8)
	wantJoined(t, x, []int{0, 2, 3}, []int{1, 4})
	x.Cut(2 + 16)
	wantJoined(t, x, []int{0, 2, 3}, []int{1, 4})
	x.Cut(1 + 2 + 4 + 8 + 16)
	wantJoined(t, x, []int{0, 1, 2, 3, 4})
	x.Cut(1 + 2)
	x.Cut(0)
	wantJoined(t, x, []int{0, 1, 2, 3, 4})
}

// P5.3: all sides of all nets, one behind the other: each cut is from now on, and knows nothing of the ones ahead.
func TestCutOfAllSides(t *testing.T) {
	for n := 1; n <= api.MaxNodes; n++ {
		x := made(t, n)
		for side := range 1 << n {
			parts := [][]int{nil, nil}
			for k, rest := 0, side; k < n; k, rest = k+1, rest/2 {
				parts[rest%2] = append(parts[rest%2], k)
			}
			x.Cut(side)
			wantJoined(t, x, parts...)
		}
	}
}

// P5.3: below 0 the bits are none: all are joined.
func TestCutBelowNothing(t *testing.T) {
	for _, side := range []int{-1, -2, -3, -4, -64, -127, math.MinInt, math.MinInt + 1} {
		x := made(t, api.MaxNodes)
		x.Cut(1 + 4)
		x.Cut(side)
		wantJoined(t, x, []int{0, 1, 2, 3, 4, 5, 6})
	}
}

// P5.3: bits of side beyond the last node are nobody's.
func TestCutBeyondTheLastNode(t *testing.T) {
	for _, beyond := range []int{8, 16, 1 << 7, 1 << 32, 1 << 62, math.MaxInt - 7} {
		x := made(t, 3)
		x.Cut(2)
		x.Cut(beyond)
		wantJoined(t, x, []int{0, 1, 2})
		x.Cut(beyond + 4)
		wantJoined(t, x, []int{2}, []int{0, 1})
	}
	x := made(t, 3)
	x.Cut(math.MaxInt)
	wantJoined(t, x, []int{0, 1, 2})
}

// P5.3, P6: who is no node is joined with nobody, itself too, whatever is cut.
func TestJoinedOfNoNode(t *testing.T) {
	for n := 1; n <= api.MaxNodes; n++ {
		for _, side := range []int{0, 1, 2, -1, 1 << n, 1<<n - 1, math.MaxInt} {
			x := made(t, n)
			x.Cut(side)
			for _, none := range noNodes(n) {
				if 0 <= none && none < n {
					continue
				}
				for k := range n {
					if x.Joined(none, k) || x.Joined(k, none) || !x.Joined(k, k) {
						t.Errorf("of %d nodes: %d and %d; %d itself: %v", n, none, k, k, x.Joined(k, k))
					}
				}
				if x.Joined(none, none) {
					t.Errorf("of %d nodes: Joined(%d, %d)", n, none, none)
				}
			}
		}
	}
}

// P5.2, P5.3: over a cut nothing is taken, in either direction; within a side all is.
func TestTakeOverACut(t *testing.T) {
	for side := range 1 << 4 {
		x := filled(t, 4)
		x.Cut(side)
		for _, l := range links(4) {
			cut := side>>l[0]&1 != side>>l[1]&1
			for i := 1; i >= 0; i-- {
				want := own(l, string("ab"[i]))
				if cut {
					want = ""
				}
				if s, ok := x.Take(l[0], l[1], i); s != want || ok == cut {
					t.Errorf("side %d, %v: Take %q, %v", side, l, s, ok)
				}
			}
		}
		x.Cut(0)
		for _, l := range links(4) {
			if side>>l[0]&1 != side>>l[1]&1 {
				wantOn(t, x, l[0], l[1], own(l, "a"), own(l, "b"))
			} else {
				wantOn(t, x, l[0], l[1])
			}
		}
	}
}

// P5.1, P5.2: Send, Drop, Double and Len know of no cut.
func TestAllButTakeOverACut(t *testing.T) {
	for side := range 1 << 4 {
		x := filled(t, 4)
		x.Cut(side)
		for _, l := range links(4) {
			if x.Drop(l[0], l[1], 2) || x.Double(l[0], l[1], 2) || x.Drop(l[0], l[1], -1) || x.Double(l[0], l[1], -1) || x.Len(l[0], l[1]) != 2 {
				t.Errorf("side %d, %v: of no message; Len %d", side, l, x.Len(l[0], l[1]))
			}
			if !x.Double(l[0], l[1], 0) || !x.Drop(l[0], l[1], 1) || !x.Send(l[0], l[1], "c") || x.Len(l[0], l[1]) != 3 {
				t.Errorf("side %d, %v: Double, Drop, Send; Len %d", side, l, x.Len(l[0], l[1]))
			}
		}
		x.Cut(0)
		for _, l := range links(4) {
			wantOn(t, x, l[0], l[1], own(l, "a"), own(l, "a"), "c")
		}
	}
}

// P5.2: over a cut Double asks for room, too.
func TestDoubleOverACutWithoutRoom(t *testing.T) {
	x := made(t, 2)
	x.Cut(1)
	send(t, x, 0, 1, numbered(63)...)
	if !x.Double(0, 1, 0) || x.Double(0, 1, 0) || x.Len(0, 1) != 64 {
		t.Errorf("Double; Len %d", x.Len(0, 1))
	}
	if !x.Drop(0, 1, 63) || x.Drop(0, 1, 63) || x.Len(0, 1) != 63 {
		t.Errorf("Drop; Len %d", x.Len(0, 1))
	}
}

// P5.3: what is on the links behind a cut stays there, in its order, and is told when they are joined again.
func TestWhatIsBehindACut(t *testing.T) {
	x := filled(t, 4)
	x.Cut(1 + 2)
	send(t, x, 0, 2, "c")
	send(t, x, 3, 1, "d")
	wantOn(t, x, 0, 1, "01a", "01b")
	wantOn(t, x, 3, 2, "32a", "32b")
	x.Cut(1 + 4)
	wantOn(t, x, 0, 2, "02a", "02b", "c")
	wantOn(t, x, 3, 1, "31a", "31b", "d")
	if _, ok := x.Take(0, 1, 0); ok {
		t.Error("Take over a cut")
	}
	x.Cut(-1)
	for _, l := range links(4) {
		want := []string{own(l, "a"), own(l, "b")}
		switch l {
		case [2]int{0, 2}:
			want = append(want, "c")
		case [2]int{3, 1}:
			want = append(want, "d")
		}
		wantOn(t, x, l[0], l[1], want...)
	}
}

// P5.3: Clear has the links to a node, and from it, lose their messages, and no others, also over a cut; the links stay.
func TestClear(t *testing.T) {
	for n := 1; n <= api.MaxNodes; n++ {
		for node := range n {
			for _, side := range []int{0, 1, 2, 5, 1 << node} {
				x := filled(t, n)
				x.Cut(side)
				x.Clear(node)
				for a := range n {
					if want := side>>a&1 == side>>node&1; x.Joined(a, node) != want {
						t.Errorf("Clear(%d) of a net cut by %d: Joined(%d, %d): %v", node, side, a, node, !want)
					}
				}
				x.Cut(0)
				for _, l := range links(n) {
					if l[0] == node || l[1] == node {
						wantOn(t, x, l[0], l[1])
						send(t, x, l[0], l[1], "new")
						wantOn(t, x, l[0], l[1], "new")
					} else {
						wantOn(t, x, l[0], l[1], own(l, "a"), own(l, "b"))
					}
				}
				if t.Failed() {
					t.Fatalf("Clear(%d) of %d nodes, cut by %d", node, n, side)
				}
			}
		}
	}
}

// P5.3, P6: who is no node has no links to lose.
func TestClearOfNoNode(t *testing.T) {
	for n := 1; n <= api.MaxNodes; n++ {
		x := filled(t, n)
		for _, node := range noNodes(n) {
			if node < 0 || node >= n {
				refuses(t, x, func() bool {
					x.Clear(node)
					return false
				})
			}
		}
	}
}
