package flush_test

import (
	"slices"
	"testing"

	"carillon/api"
	"carillon/flush"
)

// P19.1: the chapter's examples, line by line.
func TestExamples(t *testing.T) {
	wantLongest(t, logs(log("a"), log("a", "b"), nil), log("a", "b"), api.OK)
	wantLongest(t, logs(log("a", "b"), log("a", "c")), nil, api.ErrOrder)
	wantCommon(t, log("a", "b", "c"), log("a", "b", "x"), 2)
}

// P19.1: a log is a beginning of itself and of a longer one, nothing of each; none is one of a shorter one.
func TestPrefix(t *testing.T) {
	for _, n := range []int{0, 1, 2, 3, 10, 1000, 5000} {
		l := many(n)
		wantPrefix(t, l, l, true)
		wantPrefix(t, l, slices.Clone(l), true)
		wantPrefix(t, nil, l, true)
		wantPrefix(t, log(), l, true)
		wantPrefix(t, l, append(slices.Clone(l), ""), true)
		wantPrefix(t, l, append(slices.Clone(l), "x", "y"), true)
		wantPrefix(t, append(slices.Clone(l), ""), l, false)
		wantPrefix(t, append(slices.Clone(l), "x", "y"), l, false)
		wantPrefix(t, append(slices.Clone(l), "x"), append(slices.Clone(l), "y"), false)
		wantPrefix(t, append(slices.Clone(l), "x"), append(slices.Clone(l), "y", "x"), false)
		wantPrefix(t, l, nil, n == 0)
	}
}

// P19.1: a log that is like another one but for one text, at each place.
func TestOneTextParts(t *testing.T) {
	for n := 1; n < 12; n++ {
		for place := range n {
			a, b := many(n), many(n)
			b[place] = "other"
			for more := range 3 {
				wantPrefix(t, a, append(slices.Clone(b), many(more)...), false)
				wantPrefix(t, append(slices.Clone(b), many(more)...), a, false)
				wantCommon(t, a, append(slices.Clone(b), many(more)...), place)
				wantCommon(t, append(slices.Clone(b), many(more)...), a, place)
			}
			wantLongest(t, logs(a, b), nil, api.ErrOrder)
			wantLongest(t, logs(a[:place], b), b, api.OK)
			wantLongest(t, logs(a[:place+1], b), nil, api.ErrOrder)
		}
	}
}

// P19.1: Common of logs that part at the first text, at a later one, not at all.
func TestCommon(t *testing.T) {
	for _, c := range []struct {
		a, b []string
		want int
	}{
		{nil, nil, 0},
		{log(), nil, 0},
		{log("a"), nil, 0},
		{log(""), nil, 0},
		{log("a"), log("b"), 0},
		{log("a", "b"), log("b", "a"), 0},
		{log("", "a"), log("a", "a"), 0},
		{log("x", "b", "c"), log("y", "b", "c"), 0},
		{log("a"), log("a"), 1},
		{log(""), log(""), 1},
		{log("a"), log("a", "a"), 1},
		{log("a", "b", "c"), log("a", "x", "c"), 1},
		{log("a", "", "c"), log("a", "c"), 1},
		{log("a", "a", "a"), log("a", "a"), 2},
		{log("a", "b", "c"), log("a", "b", "c"), 3},
		{log("a", "b", "c", "d"), log("a", "b", "c"), 3},
		{many(5000), many(6000), 5000},
		{append(many(5000), "x"), many(6000), 5000},
	} {
		wantCommon(t, c.a, c.b, c.want)
		wantCommon(t, c.b, c.a, c.want)
	}
}

// P19.1: texts are held against each other whole, byte by byte: not by how long they are, not as one text, not as letters.
func TestTextByText(t *testing.T) {
	for _, c := range [][2][]string{
		{log("ab"), log("a", "b")},
		{log("a", "b"), log("a", "bc")},
		{log("a", "b"), log("a", "B")},
		{log("a", "bc"), log("ab", "c")},
		{log("a", ""), log("", "a")},
		{log("a\x00"), log("a")},
		{log("\xff"), log("\xfe")},
		{log("\xff"), log("\ufffd")},
		{log("é"), log("e\u0301")},
		{log(times("x", 5000) + "a"), log(times("x", 5000) + "b")},
	} {
		a, b := c[0], c[1]
		wantPrefix(t, a, b, false)
		wantPrefix(t, b, a, false)
		wantPrefix(t, a, append(slices.Clone(b), a...), false)
		wantCommon(t, a, b, plainCommon(a, b))
		wantLongest(t, logs(a, b), nil, api.ErrOrder)
		wantLongest(t, logs(b, a, nil), nil, api.ErrOrder)
	}
}

// P19.1: each two logs of up to four texts.
func TestEachTwo(t *testing.T) {
	l := each(4, "", "a", "ab")
	for _, a := range l {
		for _, b := range l {
			wantPrefix(t, a, b, plainPrefix(a, b))
			wantCommon(t, a, b, plainCommon(a, b))
			want, fault := plainLongest(logs(a, b))
			wantLongest(t, logs(a, b), want, fault)
		}
	}
}

// P19.1: each three logs of up to three texts, and each four of up to two.
func TestEachThreeAndFour(t *testing.T) {
	taken := 0
	hold := func(l ...[]string) {
		want, fault := plainLongest(l)
		wantLongest(t, l, want, fault)
		if fault == api.OK {
			taken++
		}
	}
	for _, a := range each(3, "", "a", "ab") {
		for _, b := range each(3, "", "a", "ab") {
			for _, c := range each(3, "", "a", "ab") {
				hold(a, b, c)
			}
		}
	}
	for _, a := range each(2, "", "b") {
		for _, b := range each(2, "", "b") {
			for _, c := range each(2, "", "b") {
				for _, d := range each(2, "", "b") {
					hold(a, b, c, d)
				}
			}
		}
	}
	if taken < 1000 {
		t.Error("only", taken)
	}
}

// P19.1, P2: Longest of no logs.
func TestLongestOfNone(t *testing.T) {
	for _, l := range [][][]string{nil, {}, make([][]string, 0, 9)} {
		wantLongest(t, l, nil, api.ErrArg)
	}
}

// P19.1, P5: Longest of one log, and of logs that are one; nothing is a log too.
func TestLongestOfOne(t *testing.T) {
	for _, n := range []int{0, 1, 2, 990, 991, 3000} {
		for copies := 1; copies < 10; copies++ {
			var l [][]string
			for range copies {
				l = append(l, many(n))
			}
			wantLongest(t, l, many(n), api.OK)
		}
	}
	wantLongest(t, logs(nil, log(), nil), nil, api.OK)
	wantLongest(t, logs(nil, log(""), nil), log(""), api.OK)
}

// P19.1: the longest first, in the middle, last, at each place among up to seven; the others of as many texts each, or rising, or falling.
func TestLongestAtEachPlace(t *testing.T) {
	for size := 1; size <= api.MaxNodes; size++ {
		for place := range size {
			for _, many := range [][]string{many(8), many(8)[:7], log("", "", "", "", "", "", "", "")} {
				for _, length := range []func(i int) int{
					func(int) int { return 0 },
					func(int) int { return 3 },
					func(i int) int { return i },
					func(i int) int { return size - 1 - i },
					func(i int) int { return (i * 5) % 7 },
				} {
					var l [][]string
					for i := range size {
						l = append(l, many[:length(i)])
					}
					l[place] = many
					wantLongest(t, l, many, api.OK)
				}
			}
		}
	}
}

// P19.1: in any order of them, each log of a row of which each begins the next one.
func TestLongestInAnyOrder(t *testing.T) {
	for seed := range uint32(300) {
		next := walk(seed)
		whole := many(1 + next(20))
		l := logs(whole)
		for range next(12) {
			l = append(l, whole[:next(len(whole)+1)])
		}
		for i := range l {
			k := next(i + 1)
			l[i], l[k] = l[k], l[i]
		}
		wantLongest(t, l, whole, api.OK)
	}
}

// P19.1, P2: of three and of more two part: whichever these are, wherever they part, and whatever is longest.
func TestTwoOfManyPart(t *testing.T) {
	for size := 2; size <= api.MaxNodes; size++ {
		for odd := range size {
			for place := range 4 {
				for length := place + 1; length < 8; length++ {
					var l [][]string
					for range size {
						l = append(l, many(5))
					}
					l[odd] = many(length)
					l[odd][place] = "odd"
					wantLongest(t, l, nil, api.ErrOrder)
					for i := range l {
						if i != odd && i != (odd+1)%size {
							l[i] = many(place)
						}
					}
					wantLongest(t, l, nil, api.ErrOrder)
					l[(odd+1)%size] = many(place)
					wantLongest(t, l, l[odd], api.OK)
				}
			}
		}
	}
	wantLongest(t, logs(log("a"), log("b"), log("a", "b", "c")), nil, api.ErrOrder)
	wantLongest(t, logs(log("a", "b", "c"), log("b"), log("a")), nil, api.ErrOrder)
	wantLongest(t, logs(log("b"), log("a", "b", "c"), log("a")), nil, api.ErrOrder)
}

// P19.1: logs may be longer than those of a code, and texts than those of one.
func TestLongestAsksNoLimits(t *testing.T) {
	for _, l := range [][]string{many(20000), log(times("x", api.MaxText+1)), slices.Repeat(log(times("y", 1000)), 200)} {
		wantLongest(t, logs(l[:len(l)/2], l, nil), l, api.OK)
		wantPrefix(t, l, l, true)
		wantCommon(t, l, l[:len(l)/2], len(l)/2)
	}
	wantLongest(t, slices.Repeat(logs(many(2), many(1)), 1000), many(2), api.OK)
	wantLongest(t, append(slices.Repeat(logs(many(2), many(1)), 1000), log("x")), nil, api.ErrOrder)
}

// P5: a log of nothing may be nil or empty, with spare room or without.
func TestLogsOfNothing(t *testing.T) {
	nothings := logs(nil, log(), make([]string, 0, 5), many(3)[:0])
	for _, a := range nothings {
		for _, b := range nothings {
			wantPrefix(t, a, b, true)
			wantCommon(t, a, b, 0)
			wantLongest(t, logs(a, b), nil, api.OK)
		}
		wantPrefix(t, a, log("x"), true)
		wantPrefix(t, log("x"), a, false)
		wantCommon(t, a, log("x"), 0)
		wantCommon(t, log("x"), a, 0)
		wantLongest(t, logs(a, log("x")), log("x"), api.OK)
		v := of(1, m(0, 1))
		wantEncode(t, v, a, plainCode(plainView(v), nil), api.OK)
		wantOwn(t, v, logs(a), plainCode(plainView(v), nil), api.OK)
	}
	if l, e := flush.Longest(logs(log())); len(l) != 0 || e != api.OK {
		t.Error(l, e)
	}
}
