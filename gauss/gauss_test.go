package gauss_test

import (
	"math"
	"math/big"
	"strings"
	"testing"

	"carillon/api"
	"carillon/gauss"
)

const p = 33554383

func pair(re, im int) api.Pair { return api.Pair{Re: re, Im: im} }

var (
	zero = pair(0, 0)
	one  = pair(1, 0)
	g    = pair(2, 3)
)

// modulo is n modulo p, from 0 to p - 1.
func modulo(n *big.Int) int {
	return int(new(big.Int).Mod(n, big.NewInt(p)).Int64())
}

func plainAdd(a, b api.Pair) api.Pair { return pair((a.Re+b.Re)%p, (a.Im+b.Im)%p) }

func plainSub(a, b api.Pair) api.Pair { return pair((a.Re-b.Re+p)%p, (a.Im-b.Im+p)%p) }

// plainMul is the product by numbers that are as great as they must be.
func plainMul(a, b api.Pair) api.Pair {
	times := func(x, y int) *big.Int { return new(big.Int).Mul(big.NewInt(int64(x)), big.NewInt(int64(y))) }
	re := times(a.Re, b.Re)
	im := times(a.Re, b.Im)
	return pair(modulo(re.Sub(re, times(a.Im, b.Im))), modulo(im.Add(im, times(a.Im, b.Re))))
}

// plainPow goes from n's greatest bit to its least.
func plainPow(a api.Pair, n int) api.Pair {
	out := one
	for bit := 62; bit >= 0; bit-- {
		out = plainMul(out, out)
		if n>>bit&1 == 1 {
			out = plainMul(out, a)
		}
	}
	return out
}

// times is the number n times a, each part modulo p.
func times(n int, a api.Pair) api.Pair { return pair(n*a.Re%p, n*a.Im%p) }

// plainStep is d times g, written out, and n added.
func plainStep(d api.Pair, n int) api.Pair {
	twice, thrice := times(2, d), times(3, d)
	return pair((twice.Re-thrice.Im+p+n)%p, (twice.Im+thrice.Re)%p)
}

// plainOn is the digest as the chapter tells it.
func plainOn(d api.Pair, s string) api.Pair {
	d = plainStep(d, 257+len(s))
	for _, b := range []byte(s) {
		d = plainStep(d, int(b)+1)
	}
	return d
}

// parts are the edges of a part, and some between.
func parts() []int {
	return []int{0, 1, 2, 3, 5792, 5793, p / 2, p/2 + 1, 1 << 24, 31415926, p - 2, p - 1}
}

// pairs are all that the parts make.
func pairs() []api.Pair {
	var out []api.Pair
	for _, re := range parts() {
		for _, im := range parts() {
			out = append(out, pair(re, im))
		}
	}
	return out
}

// wrongParts are below 0, or p and beyond.
func wrongParts() []int {
	return []int{-1, -2, -p, -p - 1, math.MinInt32, math.MinInt, p, p + 1, 2 * p, 1 << 25, math.MaxInt32, 1<<53 + 1, math.MaxInt}
}

// wrongPairs have a wrong part, or two.
func wrongPairs() []api.Pair {
	var out []api.Pair
	for _, wrong := range wrongParts() {
		out = append(out, pair(wrong, wrong))
		for _, part := range []int{0, 1, 12345, p - 1} {
			out = append(out, pair(wrong, part), pair(part, wrong))
		}
	}
	return out
}

// texts are some of many lengths, that have all bytes.
func texts() []string {
	out := []string{"", "a", "b", "bc", "abc", "\x00", "\x00\x00", "\xff", "\xff\xff\xff", "é\xc3", strings.Repeat("carillon", 500)}
	bytes := make([]byte, 256)
	for n := range bytes {
		bytes[n] = byte(n)
	}
	for length := range 40 {
		at := 256 * length / 47
		out = append(out, string(bytes[at:at+length]))
	}
	return append(out, string(bytes))
}

// want holds what a call answered against what it must answer; what was called is told where they differ.
func want(t *testing.T, got api.Pair, e api.Errno, right api.Pair, fault api.Errno, call ...any) {
	t.Helper()
	if got != right || e != fault {
		t.Errorf("%#v: %v, %d; want %v, %d", call, got, e, right, fault)
	}
}

// P3.1: a pair is right, if both parts are from 0 to p - 1.
func TestRight(t *testing.T) {
	for _, a := range pairs() {
		if !gauss.Right(a) {
			t.Errorf("%v is right", a)
		}
	}
	for _, a := range wrongPairs() {
		if gauss.Right(a) {
			t.Errorf("%v is not right", a)
		}
	}
}

// P3.1: p is the chapter's: a prime of the form 4n + 3, which no pair's parts reach.
func TestThePrime(t *testing.T) {
	if !big.NewInt(p).ProbablyPrime(20) || p%4 != 3 {
		t.Errorf("%d is none of these", p)
	}
	if !gauss.Right(pair(p-1, p-1)) || gauss.Right(pair(p, 0)) || gauss.Right(pair(0, p)) {
		t.Errorf("%d is not where parts end", p)
	}
}

// P3.1: the chapter's examples, and others that are known.
func TestKnown(t *testing.T) {
	i := pair(0, 1)
	last := pair(p-1, p-1)
	for _, c := range []struct {
		call  string
		do    func(a, b api.Pair) (api.Pair, api.Errno)
		a, b  api.Pair
		right api.Pair
	}{
		{"Mul(i, i)", gauss.Mul, i, i, pair(33554382, 0)},
		{"Mul of parts at p - 1", gauss.Mul, last, last, pair(0, 2)},
		{"Mul(2 + 3i, 4 + 5i)", gauss.Mul, g, pair(4, 5), pair(p-7, 22)},
		{"Mul(7 + 11i, 13 + 5i)", gauss.Mul, pair(7, 11), pair(13, 5), pair(36, 178)},
		{"Mul(2 + 3i, 0)", gauss.Mul, g, zero, zero},
		{"Mul(p - 1, p - 1)", gauss.Mul, pair(p-1, 0), pair(p-1, 0), one},
		{"Add(2 + 3i, 4 + 5i)", gauss.Add, g, pair(4, 5), pair(6, 8)},
		{"Add of parts at p - 1", gauss.Add, last, last, pair(p-2, p-2)},
		{"Add(p - 1, 1)", gauss.Add, pair(p-1, 5), pair(1, 6), pair(0, 11)},
		{"Add(i, (p - 1)i)", gauss.Add, i, pair(0, p-1), zero},
		{"Sub(i, 1)", gauss.Sub, i, one, pair(33554382, 1)},
		{"Sub(4 + 5i, 2 + 3i)", gauss.Sub, pair(4, 5), g, pair(2, 2)},
		{"Sub(0, 1 + 1i)", gauss.Sub, zero, pair(1, 1), last},
		{"Sub of parts at p - 1", gauss.Sub, last, last, zero},
		{"Sub(0, those at p - 1)", gauss.Sub, zero, last, pair(1, 1)},
	} {
		got, e := c.do(c.a, c.b)
		want(t, got, e, c.right, api.OK, c.call)
	}
}

// P3.1: sums, differences and products, of all edges with all edges.
func TestAddSubMul(t *testing.T) {
	for _, a := range pairs() {
		for _, b := range pairs() {
			sum, e := gauss.Add(a, b)
			want(t, sum, e, plainAdd(a, b), api.OK, "Add", a, b)
			difference, e := gauss.Sub(a, b)
			want(t, difference, e, plainSub(a, b), api.OK, "Sub", a, b)
			product, e := gauss.Mul(a, b)
			want(t, product, e, plainMul(a, b), api.OK, "Mul", a, b)
		}
	}
}

// P3.1: Pow is a multiplied with itself, time by time; of 0 times 1, of 0 itself too.
func TestPowTimeByTime(t *testing.T) {
	for _, a := range pairs() {
		product := one
		for n := range 70 {
			got, e := gauss.Pow(a, n)
			want(t, got, e, product, api.OK, "Pow", a, n)
			product = plainMul(product, a)
		}
	}
	got, e := gauss.Pow(pair(1, 1), 8)
	want(t, got, e, pair(16, 0), api.OK, "Pow(1 + 1i, 8)")
}

// P3.1: Pow of very great powers.
func TestPowOfMuch(t *testing.T) {
	for _, n := range []int{1 << 24, p - 1, p, p + 1, math.MaxInt32, 1 << 31, 1<<32 + 1, p*p - 1, p * p, 1 << 53, 1<<53 + 1, 1 << 62, math.MaxInt - 1, math.MaxInt} {
		for _, a := range []api.Pair{zero, one, g, pair(0, 1), pair(p-1, 0), pair(p-1, p-1), pair(31415926, 27182818)} {
			got, e := gauss.Pow(a, n)
			want(t, got, e, plainPow(a, n), api.OK, "Pow", a, n)
		}
	}
}

// P3.1: what is known of the powers p (the second part turned), and p*p - 1 (1, of all but 0).
func TestPowOfThePrime(t *testing.T) {
	for _, a := range pairs() {
		got, e := gauss.Pow(a, p)
		want(t, got, e, pair(a.Re, (p-a.Im)%p), api.OK, "Pow", a, p)
		got, e = gauss.Pow(a, p*p-1)
		if a == zero {
			want(t, got, e, zero, api.OK, "Pow", a, p*p-1)
		} else {
			want(t, got, e, one, api.OK, "Pow", a, p*p-1)
		}
	}
}

// P3.1: the inverses that are known; 0 has none.
func TestInvKnown(t *testing.T) {
	for _, c := range []struct{ a, right api.Pair }{
		{pair(0, 1), pair(0, 33554382)},
		{pair(0, p-1), pair(0, 1)},
		{one, one},
		{pair(p-1, 0), pair(p-1, 0)},
		{pair(2, 0), pair((p+1)/2, 0)},
		{pair(1, 1), pair((p+1)/2, (p-1)/2)},
	} {
		got, e := gauss.Inv(c.a)
		want(t, got, e, c.right, api.OK, "Inv", c.a)
	}
	got, e := gauss.Inv(zero)
	want(t, got, e, zero, api.ErrNone, "Inv(0)")
}

// P3.1: an inverse is right, and its product with the pair is 1.
func TestInv(t *testing.T) {
	for _, a := range pairs() {
		if a == zero {
			continue
		}
		got, e := gauss.Inv(a)
		if e != api.OK || !gauss.Right(got) || plainMul(a, got) != one {
			t.Errorf("Inv(%v): %v, %d", a, got, e)
		}
	}
}

// P3.1, P2: a pair that is not right, in each place of each call, beside right ones and others that are not; nothing is told beside the error.
func TestWrongPairs(t *testing.T) {
	two := []struct {
		name string
		do   func(a, b api.Pair) (api.Pair, api.Errno)
	}{
		{"Add", gauss.Add},
		{"Sub", gauss.Sub},
		{"Mul", gauss.Mul},
		{"Join of 0 steps", func(a, b api.Pair) (api.Pair, api.Errno) { return gauss.Join(a, b, 0) }},
		{"Join of 5 steps", func(a, b api.Pair) (api.Pair, api.Errno) { return gauss.Join(a, b, 5) }},
	}
	for _, wrong := range wrongPairs() {
		for _, call := range two {
			for _, other := range []api.Pair{zero, one, g, pair(p-1, p-1), wrong, pair(-1, p)} {
				got, e := call.do(wrong, other)
				want(t, got, e, zero, api.ErrArg, call.name, wrong, other)
				got, e = call.do(other, wrong)
				want(t, got, e, zero, api.ErrArg, call.name, other, wrong)
			}
		}
		for _, n := range []int{-1, 0, 1, 2, p, math.MaxInt} {
			got, e := gauss.Pow(wrong, n)
			want(t, got, e, zero, api.ErrArg, "Pow", wrong, n)
		}
		got, e := gauss.Inv(wrong)
		want(t, got, e, zero, api.ErrArg, "Inv", wrong)
		for _, s := range []string{"", "a", "carillon"} {
			got, e := gauss.On(wrong, s)
			want(t, got, e, zero, api.ErrArg, "On", wrong, s)
		}
	}
}

// P3.1, P3.2, P2: a power, and a number of steps, below 0.
func TestBelowNought(t *testing.T) {
	for _, n := range []int{-1, -2, -p, 1 - p*p, math.MinInt32, math.MinInt + 1, math.MinInt} {
		for _, a := range []api.Pair{zero, one, g, pair(p-1, p-1)} {
			got, e := gauss.Pow(a, n)
			want(t, got, e, zero, api.ErrArg, "Pow", a, n)
			got, e = gauss.Join(a, g, n)
			want(t, got, e, zero, api.ErrArg, "Join", a, g, n)
			got, e = gauss.Join(g, a, n)
			want(t, got, e, zero, api.ErrArg, "Join", g, a, n)
		}
	}
}

// P3.2: the chapter's examples; nothing is a text too.
func TestOnKnown(t *testing.T) {
	if d := gauss.Begin(); d != one {
		t.Errorf("Begin: %v", d)
	}
	for _, c := range []struct {
		s     string
		right api.Pair
	}{
		{"", pair(259, 3)},
		{"a", pair(609, 786)},
		{"\x00", pair(512, 786)},
		{"\xff", pair(767, 786)},
	} {
		got, e := gauss.On(gauss.Begin(), c.s)
		want(t, got, e, c.right, api.OK, "On", gauss.Begin(), c.s)
	}
	got, e := gauss.On(pair(259, 3), "")
	want(t, got, e, pair(259*2-9+257, 259*3+6), api.OK, "On of nothing, behind nothing")
}

// P3.2: texts of many lengths and bytes, from digests of all edges on.
func TestOn(t *testing.T) {
	for _, d := range pairs() {
		for _, s := range texts() {
			got, e := gauss.On(d, s)
			want(t, got, e, plainOn(d, s), api.OK, "On", d, s)
		}
	}
}

// P3.2: each byte, and each place of it.
func TestOnOfEachByte(t *testing.T) {
	for n := range 256 {
		b := string([]byte{byte(n)})
		for _, s := range []string{b, b + "x", "x" + b, b + b} {
			got, e := gauss.On(pair(p-1, p-1), s)
			want(t, got, e, plainOn(pair(p-1, p-1), s), api.OK, "On", pair(p-1, p-1), s)
		}
	}
}

// P3.2: great lengths; those of p and more count modulo p.
func TestOnOfMuch(t *testing.T) {
	s := strings.Repeat("carillon\xff", p/9+2)
	for _, length := range []int{255, 256, 65535, 65536, 1<<20 + 1, p - 1, p + 1} {
		got, e := gauss.On(gauss.Begin(), s[:length])
		want(t, got, e, plainOn(one, s[:length]), api.OK, "On of bytes", length)
	}
}

// P3.2: (d - 1) times g to the power of n, and e added; a digest of those steps or not.
func TestJoin(t *testing.T) {
	for _, n := range []int{0, 1, 2, 3, 62, 1000, p, p * p, math.MaxInt - 1, math.MaxInt} {
		far := plainPow(g, n)
		for _, d := range pairs() {
			for _, e := range []api.Pair{zero, one, g, pair(p-1, p-1), pair(0, p-1), pair(31415926, 27182818)} {
				got, fault := gauss.Join(d, e, n)
				want(t, got, fault, plainAdd(plainMul(plainSub(d, one), far), e), api.OK, "Join", d, e, n)
			}
		}
	}
}

// P3.2: of 0 steps: no text follows.
func TestJoinOfNoSteps(t *testing.T) {
	for _, d := range pairs() {
		got, e := gauss.Join(d, gauss.Begin(), 0)
		want(t, got, e, d, api.OK, "Join of no texts", d)
		got, e = gauss.Join(gauss.Begin(), d, 0)
		want(t, got, e, d, api.OK, "Join behind no texts", d)
	}
	got, e := gauss.Join(zero, zero, 0)
	want(t, got, e, pair(p-1, 0), api.OK, "Join(0, 0, 0)")
}
