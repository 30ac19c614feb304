// Package wide is layer 1: see shared/doc/01-wide.md.
package wide

import (
	"cmp"
	"math/bits"

	"distributary/api"
)

const (
	halfBits = 32
	halfMask = 1<<halfBits - 1
)

// Wide is a number of 128 bits: High times 2^64, and Low.
type Wide struct{ High, Low uint64 }

// halves are those of a, the lower one first.
func halves(a uint64) [2]uint64 {
	return [2]uint64{a & halfMask, a >> halfBits}
}

// Mul is the product (P1.1).
func Mul(a, b uint64) Wide {
	x, y := halves(a), halves(b)
	var sums [4]uint64 // one for each half of the product, the lowest first
	for i := range len(x) {
		carry := uint64(0)
		for k := range len(y) {
			// No bit is lost: a product of halves and two halves more are at most 2^64 - 1.
			part := x[i]*y[k] + sums[i+k] + carry
			sums[i+k] = part & halfMask
			carry = part >> halfBits
		}
		sums[i+len(y)] = carry // no earlier row came that far
	}
	return Wide{High: sums[3]<<halfBits | sums[2], Low: sums[1]<<halfBits | sums[0]}
}

// Plus is the sum (P1.2); ErrSum, if it is more than 2^128 - 1.
func (w Wide) Plus(x Wide) (Wide, api.Errno) {
	low, carry := bits.Add64(w.Low, x.Low, 0)
	high, carry := bits.Add64(w.High, x.High, carry)
	if carry != 0 {
		return Wide{}, api.ErrSum
	}
	return Wide{High: high, Low: low}, api.OK
}

// Minus is the difference (P1.2); ErrSum, if it is less than 0.
func (w Wide) Minus(x Wide) (Wide, api.Errno) {
	low, borrow := bits.Sub64(w.Low, x.Low, 0)
	high, borrow := bits.Sub64(w.High, x.High, borrow)
	if borrow != 0 {
		return Wide{}, api.ErrSum
	}
	return Wide{High: high, Low: low}, api.OK
}

// Cmp is -1, 0, 1 (P1.2): w is less than x, the same, greater.
func (w Wide) Cmp(x Wide) int {
	if w.High != x.High {
		return cmp.Compare(w.High, x.High)
	}
	return cmp.Compare(w.Low, x.Low)
}

// Div is how many times n is in w, and what is left (P1.3); ErrArg, if n is 0; ErrSum, if the quotient is more than 2^64 - 1.
func (w Wide) Div(n uint64) (q, rest uint64, e api.Errno) {
	if n == 0 {
		return 0, 0, api.ErrArg
	}
	if w.High >= n { // then n is in w at least 2^64 times
		return 0, 0, api.ErrSum
	}
	q, rest = bits.Div64(w.High, w.Low, n)
	return q, rest, api.OK
}

// Dot is the sum of the products, place by place, as far as both rows go (P1.1); ErrSum, if it is more than 2^128 - 1.
func Dot(a, b []uint64) (Wide, api.Errno) {
	var sum Wide
	for i := range min(len(a), len(b)) {
		var e api.Errno
		if sum, e = sum.Plus(Mul(a[i], b[i])); e != api.OK {
			return Wide{}, e
		}
	}
	return sum, api.OK
}

// Fraction is -1, 0, 1 (P1.4): a / b is less than c / d, the same, greater. It multiplies across, so that nothing is divided by 0.
func Fraction(a, b, c, d uint64) int {
	return Mul(a, d).Cmp(Mul(c, b))
}
