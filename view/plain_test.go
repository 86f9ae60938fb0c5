package view_test

import (
	"encoding/hex"
	"fmt"
	"math"
	"slices"
	"sort"
	"strings"

	"carillon/api"
)

const great = 1<<53 - 1

func m(node, life int) api.Member { return api.Member{Node: node, Life: life} }

func of(number int, members ...api.Member) api.View {
	return api.View{Number: number, Members: members}
}

// same holds views against each other; a list of nothing may be nil or empty.
func same(v, w api.View) bool {
	return v.Number == w.Number && slices.Equal(v.Members, w.Members)
}

// shown tells a view as the chapter's examples do, and keeps a failure's lines short.
func shown(v api.View) string {
	return fmt.Sprintf("%d:%s", v.Number, shownList(v.Members))
}

func shownList(l []api.Member) string {
	var b strings.Builder
	for i, x := range l {
		if i == 10 {
			fmt.Fprintf(&b, " .. of %d", len(l))
			break
		}
		fmt.Fprintf(&b, " %d.%d", x.Node, x.Life)
	}
	return b.String()
}

// rightMembers are members at the edges of Node and of Life, and between.
func rightMembers() []api.Member {
	var l []api.Member
	for node := range api.MaxNodes {
		for _, life := range []int{1, 2, 3, 255, 256, 1 << 32, 1<<53 - 2, 1<<53 - 1} {
			l = append(l, m(node, life))
		}
	}
	return l
}

// wrongMembers are members that are not right: in Node, in Life, in both.
func wrongMembers() []api.Member {
	var l []api.Member
	nodes := []int{-1, -2, -7, api.MaxNodes, api.MaxNodes + 1, 255, 256, 1 << 32, math.MaxInt, math.MinInt}
	lives := []int{0, -1, -2, -great, great + 1, great + 2, 1 << 62, math.MaxInt, math.MinInt}
	for _, node := range nodes {
		l = append(l, m(node, 1), m(node, great))
	}
	for _, life := range lives {
		l = append(l, m(0, life), m(3, life), m(api.MaxNodes-1, life))
	}
	return append(l, m(-1, 0), m(api.MaxNodes, 0), m(-1, great+1), m(api.MaxNodes, great+1), m(math.MinInt, math.MinInt), m(math.MaxInt, math.MaxInt))
}

// subset are the nodes of the bits, each with the Life that life tells.
func subset(bits int, life func(node int) int) []api.Member {
	var l []api.Member
	for node := range api.MaxNodes {
		if bits>>node&1 == 1 {
			l = append(l, m(node, life(node)))
		}
	}
	return l
}

func always(life int) func(int) int { return func(int) int { return life } }

// nodesOf are the numbers of the bits.
func nodesOf(bits int) []int {
	var l []int
	for node := range api.MaxNodes {
		if bits>>node&1 == 1 {
			l = append(l, node)
		}
	}
	return l
}

// rightViews are views of each lot of nodes, of Numbers and Lives at the edges.
func rightViews() []api.View {
	var l []api.View
	for bits := 1; bits < 1<<api.MaxNodes; bits++ {
		l = append(l, of(bits, subset(bits, func(node int) int { return 1 + (bits+3*node)%5 })...))
	}
	all := 1<<api.MaxNodes - 1
	for _, number := range []int{1, 2, 255, 256, 1 << 32, great - 1, great} {
		for _, life := range []int{1, 2, 1 << 40, great - 1, great} {
			for _, bits := range []int{1, 1 << (api.MaxNodes - 1), 3, 1 | 1<<(api.MaxNodes-1), all >> 1, all} {
				l = append(l, of(number, subset(bits, always(life))...))
			}
		}
	}
	return l
}

// wrongViews are views that are not right: each in one of its parts, and some in several.
func wrongViews() []api.View {
	three := []api.Member{m(0, 1), m(1, 1), m(2, 1)}
	all := subset(1<<api.MaxNodes-1, always(1))
	l := []api.View{
		{}, of(1), of(great), {Number: 1, Members: []api.Member{}}, of(0), of(-1),
		of(1, m(1, 1), m(0, 1)), of(1, m(0, 1), m(2, 1), m(1, 1)), of(1, m(1, 1), m(0, 1), m(2, 1)), of(1, m(2, 1), m(1, 1), m(0, 1)),
		of(1, m(0, 1), m(0, 1)), of(1, m(0, 1), m(0, 2)), of(1, m(0, 2), m(0, 1)), of(1, m(0, 1), m(1, 1), m(1, 1)), of(1, m(0, 1), m(1, 1), m(1, 2), m(2, 1)), of(1, m(5, 1), m(6, 1), m(6, 2)),
		of(1, append(slices.Clone(all), m(api.MaxNodes, 1))...), of(1, append(slices.Clone(all), m(api.MaxNodes-1, 2))...), of(1, append(slices.Clone(all), m(0, 1))...),
		of(1, slices.Repeat([]api.Member{m(0, 1)}, api.MaxNodes+1)...), of(1, slices.Repeat(three, 500)...),
	}
	for _, number := range []int{0, -1, -2, -great, great + 1, great + 2, 1 << 62, math.MaxInt, math.MinInt} {
		l = append(l, of(number, m(0, 1)), of(number, three...), of(number, all...))
	}
	for _, bad := range wrongMembers() {
		l = append(l, of(1, bad), of(great, bad), of(1, bad, m(1, 1)), of(1, m(0, 1), bad), of(1, m(0, 1), bad, m(6, 1)), of(1, m(0, 1), m(1, 1), bad))
	}
	return l
}

func plainMemberRight(x api.Member) bool {
	return x.Node >= 0 && x.Node < 7 && x.Life > 0 && x.Life < 9007199254740992
}

// plainRight asks of a view what the chapter does, pair by pair of its members.
func plainRight(v api.View) bool {
	if v.Number <= 0 || v.Number >= 9007199254740992 || len(v.Members) == 0 || len(v.Members) > 7 {
		return false
	}
	for i, x := range v.Members {
		for _, y := range v.Members[:i] {
			if y.Node >= x.Node {
				return false
			}
		}
		if !plainMemberRight(x) {
			return false
		}
	}
	return true
}

// plainMajority counts up to the least number that is more than half.
func plainMajority(v api.View) int {
	n := 0
	for 2*n <= len(v.Members) {
		n++
	}
	return n
}

func plainCommon(v, w api.View) int {
	n := 0
	for _, x := range v.Members {
		if slices.ContainsFunc(w.Members, func(y api.Member) bool { return x.Node == y.Node && x.Life == y.Life }) {
			n++
		}
	}
	return n
}

// plainNext sorts alive, the greatest Life of a node first, and takes the first of each node that is wanted.
func plainNext(v api.View, alive []api.Member, wanted []int) (api.View, api.Errno) {
	if !plainRight(v) || v.Number == 9007199254740991 {
		return api.View{}, api.ErrArg
	}
	for _, x := range alive {
		if !plainMemberRight(x) {
			return api.View{}, api.ErrArg
		}
	}
	l := slices.Clone(alive)
	sort.Slice(l, func(i, j int) bool {
		return l[i].Node < l[j].Node || l[i].Node == l[j].Node && l[i].Life > l[j].Life
	})
	w := api.View{Number: v.Number + 1}
	for i, x := range l {
		if (i == 0 || l[i-1].Node != x.Node) && slices.Contains(wanted, x.Node) {
			w.Members = append(w.Members, x)
		}
	}
	if plainCommon(v, w) < plainMajority(v) {
		return api.View{}, api.ErrFew
	}
	return w, api.OK
}

// plainCode are the bytes of a view, whether or not it is right, whose Nodes are below 256.
func plainCode(v api.View) string {
	var b strings.Builder
	fmt.Fprintf(&b, "%016x", uint64(v.Number))
	for _, x := range v.Members {
		fmt.Fprintf(&b, "%02x%016x", x.Node, uint64(x.Life))
	}
	s, err := hex.DecodeString(b.String())
	if err != nil {
		panic(err)
	}
	return string(s)
}

// walk tells numbers below a bound, without a random source.
func walk(seed uint32) func(below int) int {
	return func(below int) int {
		seed = seed*1664525 + 1013904223
		return int(seed>>8) % below
	}
}
