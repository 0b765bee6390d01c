// Package wide has numbers of 128 bits, and natural numbers up to a bound: what decimals and floats are reckoned with.
package wide

import (
	"math/bits"

	"affidavit/api"
)

// Pair is a number of 128 bits: 2^64 times Hi, and Lo.
type Pair struct{ Hi, Lo uint64 }

// Mul is a times b.
func Mul(a, b uint64) Pair {
	hi, lo := bits.Mul64(a, b)
	return Pair{hi, lo}
}

// Add is the sum modulo 2^128, and whether it went beyond that.
func (p Pair) Add(q Pair) (Pair, bool) {
	lo, carry := bits.Add64(p.Lo, q.Lo, 0)
	hi, carry := bits.Add64(p.Hi, q.Hi, carry)
	return Pair{hi, lo}, carry != 0
}

// Sub is the difference modulo 2^128, and whether it went below nought.
func (p Pair) Sub(q Pair) (Pair, bool) {
	lo, borrow := bits.Sub64(p.Lo, q.Lo, 0)
	hi, borrow := bits.Sub64(p.Hi, q.Hi, borrow)
	return Pair{hi, lo}, borrow != 0
}

// Shl is p times 2^n, modulo 2^128.
func (p Pair) Shl(n int) Pair {
	switch {
	case n <= 0:
		return p
	case n >= 64:
		return Pair{p.Lo << uint(n-64), 0}
	}
	return Pair{p.Hi<<uint(n) | p.Lo>>uint(64-n), p.Lo << uint(n)}
}

// Shr is p divided by 2^n, rounded down.
func (p Pair) Shr(n int) Pair {
	switch {
	case n <= 0:
		return p
	case n >= 64:
		return Pair{0, p.Hi >> uint(n-64)}
	}
	return Pair{p.Hi >> uint(n), p.Lo>>uint(n) | p.Hi<<uint(64-n)}
}

// Cmp is -1, 0 or 1, as p is below q, the same, above it.
func (p Pair) Cmp(q Pair) int {
	if p.Hi != q.Hi {
		return compare(p.Hi, q.Hi)
	}
	return compare(p.Lo, q.Lo)
}

// Len is how many bits p has.
func (p Pair) Len() int {
	if p.Hi != 0 {
		return 64 + bits.Len64(p.Hi)
	}
	return bits.Len64(p.Lo)
}

// Div is p divided by d, rounded down, and what is left.
func (p Pair) Div(d uint64) (Pair, uint64, error) {
	if d == 0 {
		return Pair{}, 0, api.ErrZero
	}
	lo, left := bits.Div64(p.Hi%d, p.Lo, d)
	return Pair{p.Hi / d, lo}, left, nil
}

// compare is -1, 0 or 1, as a is below b, the same, above it.
func compare(a, b uint64) int {
	switch {
	case a < b:
		return -1
	case a > b:
		return 1
	}
	return 0
}
