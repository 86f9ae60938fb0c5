package gauss_test

import (
	"math"
	"strings"
	"sync"
	"testing"

	"carillon/api"
	"carillon/gauss"
)

// must tells what was answered, where there is no error.
func must(t *testing.T) func(a api.Pair, e api.Errno) api.Pair {
	return func(a api.Pair, e api.Errno) api.Pair {
		t.Helper()
		if e != api.OK {
			t.Fatalf("error %d", e)
		}
		return a
	}
}

// some are a few pairs, edges among them.
func some() []api.Pair {
	return []api.Pair{zero, one, g, pair(0, p-1), pair(p-1, 0), pair(p-1, p-1), pair(p/2, p/2+1), pair(31415926, 27182818)}
}

// P3.3: sums and products in any order.
func TestAnyOrder(t *testing.T) {
	is := must(t)
	for _, a := range some() {
		for _, b := range some() {
			if x, y := is(gauss.Add(a, b)), is(gauss.Add(b, a)); x != y {
				t.Errorf("%v, %v: sums %v, %v", a, b, x, y)
			}
			if x, y := is(gauss.Mul(a, b)), is(gauss.Mul(b, a)); x != y {
				t.Errorf("%v, %v: products %v, %v", a, b, x, y)
			}
			if x := is(gauss.Add(is(gauss.Sub(a, b)), b)); x != a {
				t.Errorf("%v, less %v and more: %v", a, b, x)
			}
			for _, c := range some() {
				if x, y := is(gauss.Add(is(gauss.Add(a, b)), c)), is(gauss.Add(a, is(gauss.Add(b, c)))); x != y {
					t.Errorf("%v, %v, %v: sums %v, %v", a, b, c, x, y)
				}
				if x, y := is(gauss.Mul(is(gauss.Mul(a, b)), c)), is(gauss.Mul(a, is(gauss.Mul(b, c)))); x != y {
					t.Errorf("%v, %v, %v: products %v, %v", a, b, c, x, y)
				}
				if x, y := is(gauss.Mul(is(gauss.Add(a, b)), c)), is(gauss.Add(is(gauss.Mul(a, c)), is(gauss.Mul(b, c)))); x != y {
					t.Errorf("%v and %v, times %v: %v, %v", a, b, c, x, y)
				}
			}
		}
	}
}

// P3.3: powers are products too: of m times and of n times, that of both.
func TestPowersInAnyOrder(t *testing.T) {
	is := must(t)
	powers := []int{0, 1, 2, 7, p, p * p, math.MaxInt / 2}
	for _, a := range some() {
		for _, m := range powers {
			for _, n := range powers {
				if x, y := is(gauss.Mul(is(gauss.Pow(a, m)), is(gauss.Pow(a, n)))), is(gauss.Pow(a, m+n)); x != y {
					t.Errorf("%v, %d and %d times: %v, %v", a, m, n, x, y)
				}
			}
		}
	}
}

// P3.3: each pair but 0 has one inverse: what gives 1 with a is Inv(a), and a is that pair's.
func TestOneInverse(t *testing.T) {
	is := must(t)
	for _, a := range pairs() {
		if a == zero {
			continue
		}
		inverse := is(gauss.Inv(a))
		if x := is(gauss.Mul(inverse, a)); x != one {
			t.Errorf("%v times %v: %v", inverse, a, x)
		}
		if x := is(gauss.Inv(inverse)); x != a {
			t.Errorf("inverse of %v, the inverse of %v: %v", inverse, a, x)
		}
		for _, b := range some() {
			if x := is(gauss.Mul(is(gauss.Mul(b, a)), inverse)); x != b {
				t.Errorf("%v times %v and back: %v", b, a, x)
			}
		}
	}
}

// digest is that of the texts, from Begin on, and the steps that they take.
func digest(t *testing.T, texts []string) (d api.Pair, steps int) {
	t.Helper()
	d = gauss.Begin()
	for _, s := range texts {
		d = must(t)(gauss.On(d, s))
		steps += 1 + len(s)
	}
	return d, steps
}

// P3.3: Join of two digests is that of all the texts, wherever these are parted.
func TestJoinIsOfAllTheTexts(t *testing.T) {
	for _, all := range [][]string{nil, {""}, {"a"}, {"a", "bc"}, {"", "", ""}, {"\xff", "", "\x00\x00"}, texts()} {
		whole, steps := digest(t, all)
		for at := 0; at <= len(all); at++ {
			first, before := digest(t, all[:at])
			rest, behind := digest(t, all[at:])
			got, e := gauss.Join(first, rest, behind)
			want(t, got, e, whole, api.OK, "Join", first, rest, behind)
			if before+behind != steps {
				t.Errorf("%d steps and %d; want %d", before, behind, steps)
			}
		}
	}
}

// P3.3: joined in any order.
func TestJoinInAnyOrder(t *testing.T) {
	is := must(t)
	a, _ := digest(t, []string{"one", ""})
	for _, first := range texts() {
		b, m := digest(t, []string{first, "two"})
		for _, second := range texts() {
			c, n := digest(t, []string{second})
			left := is(gauss.Join(is(gauss.Join(a, b, m)), c, n))
			right := is(gauss.Join(a, is(gauss.Join(b, c, n)), m+n))
			whole, _ := digest(t, []string{"one", "", first, "two", second})
			if left != whole || right != whole {
				t.Errorf("%q, %q: %v, %v; want %v", first, second, left, right, whole)
			}
		}
	}
}

// P3.2: where one text ends and the next begins is told by the digest, and so is the order.
func TestTextsThatDiffer(t *testing.T) {
	seen := map[api.Pair]string{}
	for _, texts := range [][]string{{}, {""}, {"", ""}, {"a"}, {"b"}, {"", "a"}, {"a", ""}, {"ab"}, {"ba"}, {"a", "b"}, {"b", "a"}, {"abc"}, {"a", "bc"}, {"ab", "c"}, {"a", "b", "c"}, {"\x00"}, {"\x00\x00"}} {
		d, _ := digest(t, texts)
		told := strings.Join(texts, "|")
		if other, ok := seen[d]; ok {
			t.Errorf("%q and %q: %v", told, other, d)
		}
		seen[d] = told
	}
}

// P4: the same arguments, the same answer, whatever was asked between and beside it.
func TestAnswersHangOnArgumentsAlone(t *testing.T) {
	last := pair(p-1, p-1)
	var all sync.WaitGroup
	for range 8 {
		all.Go(func() {
			for range 50 {
				got, e := gauss.Mul(last, last)
				want(t, got, e, pair(0, 2), api.OK, "Mul", last, last)
				got, e = gauss.Inv(pair(0, 1))
				want(t, got, e, pair(0, p-1), api.OK, "Inv", pair(0, 1))
				got, e = gauss.Pow(pair(1, 1), 8)
				want(t, got, e, pair(16, 0), api.OK, "Pow", pair(1, 1), 8)
				got, e = gauss.On(gauss.Begin(), "a")
				want(t, got, e, pair(609, 786), api.OK, "On", gauss.Begin(), "a")
				got, e = gauss.On(pair(-1, 0), "a")
				want(t, got, e, zero, api.ErrArg, "On", pair(-1, 0), "a")
				got, e = gauss.Join(gauss.Begin(), last, 3)
				want(t, got, e, last, api.OK, "Join", gauss.Begin(), last, 3)
			}
		})
	}
	all.Wait()
}

// P1, P3.1: whatever the parts, each call ends, and tells what it must.
func FuzzPairs(f *testing.F) {
	f.Add(0, 0, 0, 0, 0)
	f.Add(1, 1, p-1, p-1, 8)
	f.Add(p, 0, 0, -1, -1)
	f.Add(math.MaxInt, math.MinInt, 0, 0, math.MaxInt)
	f.Fuzz(func(t *testing.T, re, im, re2, im2, n int) {
		fold := func(part int) int { return (part%p + p) % p }
		askAll(t, pair(re, im), pair(re2, im2), n)
		askAll(t, pair(fold(re), fold(im)), pair(fold(re2), fold(im2)), n)
	})
}

// askAll asks each call for its answer, or its error.
func askAll(t *testing.T, a, b api.Pair, n int) {
	t.Helper()
	right := func(a api.Pair) bool { return min(a.Re, a.Im) >= 0 && max(a.Re, a.Im) < p }
	hold := func(call string, got api.Pair, e api.Errno, ok bool, answer func() api.Pair) {
		t.Helper()
		if ok {
			want(t, got, e, answer(), api.OK, call, a, b, n)
		} else {
			want(t, got, e, zero, api.ErrArg, call, a, b, n)
		}
	}
	both := right(a) && right(b)
	got, e := gauss.Add(a, b)
	hold("Add", got, e, both, func() api.Pair { return plainAdd(a, b) })
	got, e = gauss.Sub(a, b)
	hold("Sub", got, e, both, func() api.Pair { return plainSub(a, b) })
	got, e = gauss.Mul(a, b)
	hold("Mul", got, e, both, func() api.Pair { return plainMul(a, b) })
	got, e = gauss.Pow(a, n)
	hold("Pow", got, e, right(a) && n >= 0, func() api.Pair { return plainPow(a, n) })
	got, e = gauss.Join(a, b, n)
	hold("Join", got, e, both && n >= 0, func() api.Pair {
		return plainAdd(plainMul(plainSub(a, one), plainPow(g, n)), b)
	})
	if right(a) && a != zero {
		got, e = gauss.Inv(a)
		want(t, plainMul(got, a), e, one, api.OK, "Inv times", a)
	}
}

// P3.2, P3.3: whatever the texts, On goes byte by byte, and Join is of both.
func FuzzJoin(f *testing.F) {
	f.Add("", "")
	f.Add("a", "bc")
	f.Add("\xff\x00", "\x80")
	f.Fuzz(func(t *testing.T, first, second string) {
		a, _ := digest(t, []string{first})
		b, n := digest(t, []string{second})
		both, _ := digest(t, []string{first, second})
		want(t, both, api.OK, plainOn(plainOn(one, first), second), api.OK, "On", first, second)
		got, e := gauss.Join(a, b, n)
		want(t, got, e, both, api.OK, "Join", a, b, n)
	})
}
