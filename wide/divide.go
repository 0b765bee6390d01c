package wide

import (
	"math/bits"

	"affidavit/api"
)

// Divide is n divided by m, rounded down, and what is left.
func (n Nat) Divide(m Nat) (Nat, Nat, error) {
	switch {
	case len(m.words) == 0:
		return Nat{}, Nat{}, api.ErrZero
	case n.Cmp(m) < 0:
		return Nat{}, n, nil
	case len(m.words) == 1:
		q, left := short(n.words, m.words[0])
		return trim(q), Of(left), nil
	}
	q, left := long(n, m)
	return q, left, nil
}

// short divides words by one word, from the highest on.
func short(words []uint64, d uint64) ([]uint64, uint64) {
	q := make([]uint64, len(words))
	left := uint64(0)
	for i := len(words) - 1; i >= 0; i-- {
		q[i], left = bits.Div64(left, words[i], d)
	}
	return q, left
}

// long divides by a number of two words or more that is not above n: by guessing word by word from the two highest ones (Knuth, 4.3.1 D).
func long(n, m Nat) (Nat, Nat) {
	shift := 64*len(m.words) - m.Len() // so that the divisor's highest bit is set, without which guesses are too far off
	d := spread(m, shift)[:len(m.words)]
	rest := spread(n, shift)
	q := make([]uint64, len(rest)-len(d))
	for j := len(q) - 1; j >= 0; j-- {
		part := rest[j : j+len(d)+1]
		digit := guess(part, d)
		for subTimes(part, d, digit) {
			digit--
		}
		q[j] = digit
	}
	left, _ := trim(rest).Shr(shift)
	return trim(q), left
}

// spread is n's words, shifted up by less than a word, with one more word on top.
func spread(n Nat, shift int) []uint64 {
	words := make([]uint64, len(n.words)+1)
	for i, w := range n.words {
		p := Pair{0, w}.Shl(shift)
		words[i] |= p.Lo
		words[i+1] |= p.Hi
	}
	return words
}

// guess is how often d goes into part, which has one word more, or up to two more than that.
func guess(part, d []uint64) uint64 {
	top, next, below := part[len(part)-1], part[len(part)-2], part[len(part)-3]
	high, low := d[len(d)-1], d[len(d)-2]
	digit, left, beyond := ^uint64(0), next+high, next+high < next
	if top < high {
		digit, left = bits.Div64(top, next, high)
		beyond = false
	}
nearer:
	for !beyond {
		if Mul(digit, low).Cmp(Pair{left, below}) <= 0 {
			break nearer
		}
		digit--
		left += high
		beyond = left < high
	}
	return digit
}

// subTimes takes d, digit times, off part; if that goes below nought part is left as it was, and true is told.
func subTimes(part, d []uint64, digit uint64) bool {
	over, borrow := uint64(0), uint64(0)
	for i, w := range d {
		p, _ := Mul(w, digit).Add(Pair{0, over})
		part[i], borrow = bits.Sub64(part[i], p.Lo, borrow)
		over = p.Hi
	}
	part[len(d)], borrow = bits.Sub64(part[len(d)], over, borrow)
	if borrow == 0 {
		return false
	}
	part[len(d)] += addTimes(part[:len(d)], d, digit)
	return true
}
