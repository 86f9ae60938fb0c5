package view_test

import (
	"math"
	"slices"
	"testing"

	"carillon/api"
	"carillon/view"
)

func wantFirst(t *testing.T, v api.View, want api.Member, fault api.Errno) {
	t.Helper()
	if x, e := view.First(v); x != want || e != fault {
		t.Errorf("First(%s): %v, %d; want %v, %d", shown(v), x, e, want, fault)
	}
}

func wantCommon(t *testing.T, v, w api.View, want int) {
	t.Helper()
	if n := view.Common(v, w); n != want {
		t.Errorf("Common(%s; %s): %d; want %d", shown(v), shown(w), n, want)
	}
}

// P12.1, P12.2: the chapter's examples, line by line.
func TestExamples(t *testing.T) {
	v := of(1, m(0, 1), m(1, 1), m(2, 1))
	wanted := []int{0, 1, 2}
	wantNext(t, v, []api.Member{m(0, 1), m(2, 1), m(2, 3)}, wanted, api.View{}, api.ErrFew)
	w := of(2, m(0, 1), m(1, 1), m(2, 3))
	wantNext(t, v, []api.Member{m(0, 1), m(1, 1), m(2, 3)}, wanted, w, api.OK)
	wantFirst(t, w, m(0, 1), api.OK)
	if n := view.Majority(w); n != 2 {
		t.Errorf("Majority(%s): %d", shown(w), n)
	}
}

// P12.1: members at the edges of Node and Life, and beyond them.
func TestRightMember(t *testing.T) {
	for _, x := range rightMembers() {
		if !view.RightMember(x) {
			t.Errorf("%v: not right", x)
		}
	}
	for _, x := range append(wrongMembers(), api.Member{}) {
		if view.RightMember(x) {
			t.Errorf("%v: right", x)
		}
	}
}

// P12.1: views of one to MaxNodes members, of each lot of nodes, at the edges of Number and Life, and beyond them.
func TestRight(t *testing.T) {
	for _, v := range rightViews() {
		if !view.Right(v) {
			t.Errorf("%s: not right", shown(v))
		}
	}
	for _, v := range wrongViews() {
		if view.Right(v) {
			t.Errorf("%s: right", shown(v))
		}
	}
}

// P12.1: each row of up to three members, of some right and wrong ones: they must be right, and their Nodes rise.
func TestRightOfEachRow(t *testing.T) {
	some := []api.Member{m(-1, 1), m(0, 0), m(0, 1), m(0, 2), m(1, 1), m(1, great), m(1, great+1), m(6, 1), m(6, 5), m(7, 1)}
	for _, number := range []int{0, 1, great, great + 1} {
		for _, x := range some {
			for _, y := range some {
				for _, z := range some {
					for n := range 4 {
						v := of(number, []api.Member{x, y, z}[:n]...)
						if view.Right(v) != plainRight(v) {
							t.Errorf("Right(%s): %v", shown(v), !plainRight(v))
						}
					}
				}
			}
		}
	}
}

// P12.1: of even and of odd numbers of members, of none, and of more than a view may have.
func TestMajority(t *testing.T) {
	for size, want := range []int{1, 1, 2, 2, 3, 3, 4, 4, 5, 5, 6} {
		var l []api.Member
		for node := range size {
			l = append(l, m(node, 1))
		}
		if n := view.Majority(of(1, l...)); n != want {
			t.Errorf("of %d members: %d; want %d", size, n, want)
		}
	}
	for _, v := range append(rightViews(), wrongViews()...) {
		if n := view.Majority(v); n != plainMajority(v) {
			t.Errorf("Majority(%s): %d; want %d", shown(v), n, plainMajority(v))
		}
	}
}

// P12.1: a member is one with its Node and its Life: each right member, in each view of one to MaxNodes members.
func TestHas(t *testing.T) {
	for bits := range 1 << api.MaxNodes {
		v := of(1, subset(bits, func(node int) int { return 1 + node%3 })...)
		for node := range api.MaxNodes {
			for life := range 6 {
				want := bits>>node&1 == 1 && life == 1+node%3
				if view.Has(v, m(node, life)) != want {
					t.Errorf("Has(%s; %d.%d): %v", shown(v), node, life, !want)
				}
			}
		}
		for _, x := range append(wrongMembers(), api.Member{}) {
			if view.Has(v, x) {
				t.Errorf("Has(%s; %v)", shown(v), x)
			}
		}
	}
	v := of(great, m(0, great), m(6, 1))
	if !view.Has(v, m(0, great)) || !view.Has(v, m(6, 1)) || view.Has(v, m(0, great-1)) || view.Has(v, m(0, 1)) || view.Has(v, m(6, great)) {
		t.Error(shown(v))
	}
}

// P12.1: what is asked of Has is asked of any view: the members of one that is not right are members too.
func TestHasOfWrongViews(t *testing.T) {
	for _, v := range wrongViews() {
		for _, x := range v.Members {
			if !view.Has(v, x) {
				t.Errorf("Has(%s; %v): false", shown(v), x)
			}
		}
		if view.Has(v, m(4, 77)) || view.Has(v, m(-4, 1)) || len(v.Members) == 0 && view.Has(v, api.Member{}) {
			t.Errorf("%s has what it has not", shown(v))
		}
	}
	if !view.Has(of(0, api.Member{}), api.Member{}) || view.Has(of(1, m(0, 1)), api.Member{}) {
		t.Error("a member of noughts")
	}
}

// P12.1: the first member is the sequencer, of a right view alone.
func TestFirst(t *testing.T) {
	for _, v := range rightViews() {
		wantFirst(t, v, v.Members[0], api.OK)
		for _, x := range v.Members {
			if x.Node < v.Members[0].Node {
				t.Errorf("First(%s) is not of the least Node", shown(v))
			}
		}
	}
	for _, v := range wrongViews() {
		wantFirst(t, v, api.Member{}, api.ErrArg)
	}
}

// P12.1: each lot of nodes with each other one; other lives are other members; the Numbers count for nothing.
func TestCommon(t *testing.T) {
	for a := range 1 << api.MaxNodes {
		v := of(1, subset(a, always(1))...)
		for b := range 1 << api.MaxNodes {
			shared := len(nodesOf(a & b))
			wantCommon(t, v, of(2, subset(b, always(1))...), shared)
			wantCommon(t, v, of(1, subset(b, always(2))...), 0)
			even := func(node int) int { return 1 + node%2 }
			wantCommon(t, v, of(great, subset(b, even)...), len(nodesOf(a&b&0b1010101)))
		}
	}
}

// P12.1: of views that are not right it counts v's members, one that is there twice as two.
func TestCommonOfWrongViews(t *testing.T) {
	one, twice := of(1, m(0, 1)), of(0, m(0, 1), m(0, 1))
	wantCommon(t, twice, one, 2)
	wantCommon(t, one, twice, 1)
	wantCommon(t, twice, twice, 2)
	wantCommon(t, of(-1, m(9, 0), m(-1, -1), m(2, 2)), of(0, m(2, 2), m(-1, -1), m(9, 1)), 2)
	wantCommon(t, of(1, m(2, 1), m(1, 1), m(0, 1)), of(1, m(0, 1), m(1, 1)), 2)
	wantCommon(t, api.View{}, one, 0)
	wantCommon(t, one, api.View{}, 0)
	wantCommon(t, api.View{}, api.View{}, 0)
	wantCommon(t, of(0, api.Member{}), of(0, api.Member{}), 1)
	wantCommon(t, of(0, m(math.MinInt, math.MaxInt)), of(0, m(math.MinInt, math.MaxInt), m(math.MinInt, math.MinInt)), 1)
	for _, v := range wrongViews() {
		for _, w := range append(wrongViews()[:20], rightViews()[100:110]...) {
			wantCommon(t, v, w, plainCommon(v, w))
			wantCommon(t, w, v, plainCommon(w, v))
		}
	}
}

// P5: a list of nothing may be nil or empty.
func TestListsOfNothing(t *testing.T) {
	for _, nothing := range [][]api.Member{nil, {}, make([]api.Member, 0, 9)} {
		v := api.View{Number: 1, Members: nothing}
		if view.Right(v) || view.Majority(v) != 1 || view.Has(v, m(0, 1)) {
			t.Errorf("%#v", v)
		}
		wantFirst(t, v, api.Member{}, api.ErrArg)
		wantCommon(t, v, of(1, m(0, 1)), 0)
		wantCommon(t, of(1, m(0, 1)), v, 0)
		wantEncode(t, v, "", api.ErrArg)
		wantNext(t, of(1, m(0, 1)), nothing, []int{0}, api.View{}, api.ErrFew)
		wantNext(t, v, []api.Member{m(0, 1)}, []int{0}, api.View{}, api.ErrArg)
	}
	for _, nobody := range [][]int{nil, {}, slices.Grow([]int{}, 9)} {
		wantNext(t, of(1, m(0, 1)), []api.Member{m(0, 1)}, nobody, api.View{}, api.ErrFew)
	}
}
