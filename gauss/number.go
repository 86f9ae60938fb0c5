package gauss

import (
	"carillon/api"
)

const (
	p = 33554383 // a prime of the form 4n + 3, so that no product is 0 but that of 0
	g = 2 + 3i   // by which a digest is multiplied in each step
)

// number is the pair as a complex number. Parts that are below 2^25 have products, and sums of two of these, below 2^53: they stay whole.
func number(a api.Pair) complex128 {
	return complex(float64(a.Re), float64(a.Im))
}

// pair is the number as a pair that is right.
func pair(z complex128) api.Pair {
	return api.Pair{Re: modulo(real(z)), Im: modulo(imag(z))}
}

// small is the number with each part modulo p again, as it must be ahead of the next product.
func small(z complex128) complex128 {
	return number(pair(z))
}

// modulo is a whole part modulo p, from 0 on.
func modulo(part float64) int {
	rest := int64(part) % p
	if rest < 0 { // what is left of a part below 0 is below 0 too
		rest += p
	}
	return int(rest)
}

// power is z to the power of n, which is not below 0. It goes by squares, one for each bit of n, so that a very great power ends soon.
func power(z complex128, n int64) complex128 {
	product := complex128(1)
	for ; n > 0; n /= 2 {
		if n%2 == 1 {
			product = small(product * z)
		}
		z = small(z * z)
	}
	return product
}

// step is one of a digest: a text takes one for its length, and one for each byte.
func step(z complex128, add int) complex128 {
	return small(z*g + complex(float64(add), 0))
}
