package view_test

import (
	"math"
	"slices"
	"testing"

	"carillon/api"
	"carillon/view"
)

func wantNext(t *testing.T, v api.View, alive []api.Member, wanted []int, want api.View, fault api.Errno) {
	t.Helper()
	w, e := view.Next(v, alive, wanted)
	if !same(w, want) || e != fault {
		t.Errorf("Next(%s; alive%s; wanted %v): %s, %d; want %s, %d", shown(v), shownList(alive), wanted, shown(w), e, shown(want), fault)
	}
}

func wantPlainNext(t *testing.T, v api.View, alive []api.Member, wanted []int) {
	t.Helper()
	want, fault := plainNext(v, alive, wanted)
	wantNext(t, v, alive, wanted, want, fault)
}

// everyone are the numbers of all nodes.
func everyone() []int { return nodesOf(1<<api.MaxNodes - 1) }

// P12.2: who is in wanted and alive is in it, in the order of the Nodes, whatever the order they are handed in.
func TestNextMembers(t *testing.T) {
	v := of(5, m(1, 1), m(3, 2), m(5, 1))
	for _, c := range []struct {
		alive  []api.Member
		wanted []int
		want   []api.Member
	}{
		{[]api.Member{m(1, 1), m(3, 2), m(5, 1)}, []int{1, 3, 5}, []api.Member{m(1, 1), m(3, 2), m(5, 1)}},
		{[]api.Member{m(5, 1), m(1, 1), m(3, 2)}, []int{5, 3, 1}, []api.Member{m(1, 1), m(3, 2), m(5, 1)}},
		{[]api.Member{m(1, 1), m(3, 2)}, []int{1, 3, 5}, []api.Member{m(1, 1), m(3, 2)}},
		{[]api.Member{m(1, 1), m(3, 2), m(5, 1)}, []int{3, 5}, []api.Member{m(3, 2), m(5, 1)}},
		{[]api.Member{m(6, 9), m(5, 1), m(0, great), m(1, 1)}, []int{0, 1, 2, 5, 6}, []api.Member{m(0, great), m(1, 1), m(5, 1), m(6, 9)}},
		{[]api.Member{m(6, 9), m(5, 1), m(0, great), m(1, 1)}, []int{1, 2, 5}, []api.Member{m(1, 1), m(5, 1)}},
		{[]api.Member{m(0, 1), m(1, 1), m(2, 1), m(3, 2), m(4, 1), m(5, 1), m(6, 1)}, everyone(), []api.Member{m(0, 1), m(1, 1), m(2, 1), m(3, 2), m(4, 1), m(5, 1), m(6, 1)}},
		{[]api.Member{m(1, 1), m(3, 2), m(5, 4)}, everyone(), []api.Member{m(1, 1), m(3, 2), m(5, 4)}},
		{[]api.Member{m(1, 1), m(3, 1), m(5, 1)}, everyone(), []api.Member{m(1, 1), m(3, 1), m(5, 1)}},
	} {
		wantNext(t, v, c.alive, c.wanted, of(6, c.want...), api.OK)
	}
}

// P12.2: just Majority of v's members go on, and one less, of views of one to MaxNodes members; the others are not alive, not wanted, or of another Life, and strangers count for nothing.
func TestNextMajority(t *testing.T) {
	for size := 1; size <= api.MaxNodes; size++ {
		all := subset(1<<size-1, always(5))
		v := of(3, all...)
		strangers := subset(1<<api.MaxNodes-1<<size, always(5))
		for stay := range size + 1 {
			fault := api.ErrFew
			if stay >= size/2+1 {
				fault = api.OK
			}
			more := subset(1<<size-1<<stay, always(6))
			less := subset(1<<size-1<<stay, always(4))
			wantFault(t, v, all[:stay], everyone(), fault)
			wantFault(t, v, all, everyone()[:stay], fault)
			wantFault(t, v, append(slices.Clone(all[:stay]), strangers...), everyone(), fault)
			wantFault(t, v, slices.Concat(all[:stay], more), everyone(), fault)
			wantFault(t, v, slices.Concat(all[:stay], less), everyone(), fault)
			wantFault(t, v, slices.Concat(all, more), everyone(), fault)
			wantFault(t, v, slices.Concat(more, strangers, all), everyone(), fault)
			wantFault(t, v, slices.Concat(all, less), everyone(), api.OK)
		}
	}
}

func wantFault(t *testing.T, v api.View, alive []api.Member, wanted []int, fault api.Errno) {
	t.Helper()
	wantPlainNext(t, v, alive, wanted)
	if _, e := view.Next(v, alive, wanted); e != fault {
		t.Errorf("Next(%s; alive%s; wanted %v): %d; want %d", shown(v), shownList(alive), wanted, e, fault)
	}
}

// P12.2: of several lives of one node the greatest counts, be it first, last or between, and others of alive between them.
func TestNextLives(t *testing.T) {
	v := of(1, m(0, 1), m(1, 2), m(2, 9))
	for _, lives := range [][]api.Member{
		{m(2, 9), m(2, 3), m(2, 8)}, {m(2, 3), m(2, 9), m(2, 8)}, {m(2, 3), m(2, 8), m(2, 9)},
		{m(2, 9), m(2, 9)}, {m(2, 9), m(2, 1), m(2, 9)}, {m(2, 9)},
	} {
		want := of(2, m(1, 2), m(2, 9))
		wantNext(t, v, append([]api.Member{m(1, 2)}, lives...), everyone(), want, api.OK)
		wantNext(t, v, append(slices.Clone(lives), m(1, 2)), everyone(), want, api.OK)
		wantNext(t, v, append(slices.Insert(slices.Clone(lives), 1, m(1, 2)), m(1, 1)), everyone(), want, api.OK)
	}
	wantNext(t, v, []api.Member{m(0, 1), m(1, 2), m(2, great), m(2, 9), m(2, great-1)}, everyone(), of(2, m(0, 1), m(1, 2), m(2, great)), api.OK)
	wantNext(t, v, []api.Member{m(1, 2), m(2, 9), m(2, 10)}, everyone(), api.View{}, api.ErrFew)
	wantNext(t, v, []api.Member{m(1, 2), m(2, 10), m(2, 9)}, everyone(), api.View{}, api.ErrFew)
	wantNext(t, v, slices.Repeat([]api.Member{m(2, 9), m(0, 1)}, 50), everyone(), of(2, m(0, 1), m(2, 9)), api.OK)
}

// P12.2: a member whose node comes back with another Life, a greater or a lesser one, is in the next view as another member.
func TestNextOfAnotherLife(t *testing.T) {
	v := of(1, m(0, 4), m(3, 4), m(6, 4))
	for _, life := range []int{1, 3, 5, great} {
		wantNext(t, v, []api.Member{m(0, life), m(3, 4), m(6, 4)}, everyone(), of(2, m(0, life), m(3, 4), m(6, 4)), api.OK)
		wantNext(t, v, []api.Member{m(0, 4), m(3, 4), m(6, life)}, everyone(), of(2, m(0, 4), m(3, 4), m(6, life)), api.OK)
		wantNext(t, v, []api.Member{m(0, life), m(3, life), m(6, 4)}, everyone(), api.View{}, api.ErrFew)
		wantNext(t, of(1, m(0, 4)), []api.Member{m(0, life)}, everyone(), api.View{}, api.ErrFew)
	}
}

// P12.2: nodes that are wanted twice are in it once; numbers that no node has, and nodes that are not alive, count for nothing.
func TestNextWanted(t *testing.T) {
	v := of(1, m(0, 1), m(6, 1))
	alive := []api.Member{m(6, 1), m(0, 1), m(2, 1)}
	want := of(2, m(0, 1), m(6, 1))
	for _, wanted := range [][]int{
		{0, 6}, {6, 0}, {0, 0, 6, 6}, {6, 0, 6, 0, 0}, {0, 1, 3, 4, 5, 6},
		{-1, 0, 6, 7}, {math.MinInt, 6, math.MaxInt, 0}, {0, 6, 1 << 32, 1<<32 + 2, -2, 258, api.MaxNodes + 2},
	} {
		wantNext(t, v, alive, wanted, want, api.OK)
	}
	for _, wanted := range [][]int{nil, {}, {0}, {6}, {6, 6}, {0, 2}, {-1}, {7}, {-6, 0}, {math.MaxInt, math.MinInt}} {
		wantNext(t, v, alive, wanted, api.View{}, api.ErrFew)
	}
	wantNext(t, v, alive, slices.Repeat([]int{2, 0, 6, -1}, 50), of(2, m(0, 1), m(2, 1), m(6, 1)), api.OK)
}

// P12.2: alive and wanted of nothing.
func TestNextOfNobody(t *testing.T) {
	for _, v := range rightViews() {
		fault := api.ErrFew
		if v.Number == great {
			fault = api.ErrArg
		}
		wantNext(t, v, nil, everyone(), api.View{}, fault)
		wantNext(t, v, v.Members, nil, api.View{}, fault)
		wantNext(t, v, nil, nil, api.View{}, fault)
	}
}

// P12.2: the Number is one more; the greatest has none behind it, and that is told ahead of ErrFew.
func TestNextNumber(t *testing.T) {
	for _, number := range []int{1, 2, 255, 1 << 32, great - 2, great - 1} {
		wantNext(t, of(number, m(0, 1)), []api.Member{m(0, 1)}, []int{0}, of(number+1, m(0, 1)), api.OK)
		wantNext(t, of(number, m(0, 1)), nil, []int{0}, api.View{}, api.ErrFew)
	}
	for _, number := range []int{great, great + 1, 0, -1, math.MaxInt, math.MinInt} {
		wantNext(t, of(number, m(0, 1)), []api.Member{m(0, 1)}, []int{0}, api.View{}, api.ErrArg)
		wantNext(t, of(number, m(0, 1)), nil, nil, api.View{}, api.ErrArg)
	}
}

// P12.2: behind a view that is not right there is none, whoever is alive.
func TestNextOfWrongViews(t *testing.T) {
	for _, v := range wrongViews() {
		wantNext(t, v, subset(1<<api.MaxNodes-1, always(1)), everyone(), api.View{}, api.ErrArg)
		wantNext(t, v, nil, nil, api.View{}, api.ErrArg)
	}
}

// P12.2: one of alive that is no right member, at each place, also if its node is not wanted, another life of it is right, or there are too few.
func TestNextOfWrongMembers(t *testing.T) {
	v := of(1, m(0, 1), m(1, 1), m(2, 1))
	for _, bad := range append(wrongMembers(), api.Member{}) {
		for place := range 4 {
			alive := slices.Insert([]api.Member{m(0, 1), m(1, 1), m(2, 1)}, place, bad)
			for _, wanted := range [][]int{everyone(), {0, 1, 2}, {1, 2}, {bad.Node}, nil} {
				wantNext(t, v, alive, wanted, api.View{}, api.ErrArg)
			}
		}
		wantNext(t, v, []api.Member{bad}, everyone(), api.View{}, api.ErrArg)
	}
}

// P12.2: each view, alive and wanted of three nodes, whose lives are 1 or 2, or both, in both orders.
func TestNextOfThree(t *testing.T) {
	lives := [][]int{{}, {1}, {2}, {1, 2}, {2, 1}}
	for place := range 27 {
		v := of(7)
		for node, p := 0, place; node < 3; node, p = node+1, p/3 {
			if p%3 > 0 {
				v.Members = append(v.Members, m(node, p%3))
			}
		}
		for kind := range 125 {
			var alive []api.Member
			for node, k := 0, kind; node < 3; node, k = node+1, k/5 {
				for _, life := range lives[k%5] {
					alive = append(alive, m(node, life))
				}
			}
			for wanted := range 8 {
				wantPlainNext(t, v, alive, nodesOf(wanted))
			}
		}
	}
}

// P12.2: each view, alive and wanted of five nodes of one Life.
func TestNextOfFive(t *testing.T) {
	for members := range 32 {
		for alive := range 32 {
			for wanted := range 32 {
				wantPlainNext(t, of(1, subset(members, always(1))...), subset(alive, always(1)), nodesOf(wanted))
			}
		}
	}
}

// P12.2: long lists of all kinds, in any order, with members twice and numbers that no node has.
func TestNextOfLongLists(t *testing.T) {
	for seed := range uint32(3000) {
		next := walk(seed)
		v := of(1+next(9), subset(1+next(1<<api.MaxNodes-1), func(int) int { return 1 + next(3) })...)
		var alive []api.Member
		for range next(30) {
			alive = append(alive, m(next(api.MaxNodes), 1+next(3)))
		}
		for _, x := range v.Members {
			if next(3) > 0 {
				alive = slices.DeleteFunc(alive, func(y api.Member) bool { return x.Node == y.Node && x.Life < y.Life })
				alive = slices.Insert(alive, next(len(alive)+1), x)
			}
		}
		var wanted []int
		for range next(40) {
			wanted = append(wanted, next(api.MaxNodes+4)-2)
		}
		wantPlainNext(t, v, alive, wanted)
	}
}
