package wide

import (
	"math/bits"

	"affidavit/api"
)

// maxWords is how many words a Nat has at most.
const maxWords = api.MaxBits / 64

// Nat is a natural number below 2^MaxBits. It never changes, and its zero value is 0.
type Nat struct {
	words []uint64 // the lowest first; the last one is not 0
}

// Of is the number n.
func Of(n uint64) Nat {
	if n == 0 {
		return Nat{}
	}
	return Nat{[]uint64{n}}
}

// Power is base to the power n.
func Power(base uint64, n int) (Nat, error) {
	if n < 0 {
		return Nat{}, api.ErrArg
	}
	power := Of(1)
	if base == 1 || n == 0 {
		return power, nil
	}
	// From the highest bit of n on no power on the way is above the last one, so ErrOver is never told too early.
	for k := bits.Len(uint(n)) - 1; k >= 0; k-- {
		var err error
		if power, err = power.Mul(power); err != nil {
			return Nat{}, err
		}
		if n>>uint(k)&1 == 0 {
			continue
		}
		if power, err = power.Times(base); err != nil {
			return Nat{}, err
		}
	}
	return power, nil
}

// Add is the sum.
func (n Nat) Add(m Nat) (Nat, error) {
	if len(n.words) < len(m.words) {
		n, m = m, n
	}
	sum := make([]uint64, len(n.words)+1)
	carry := uint64(0)
	for i, w := range n.words {
		sum[i], carry = bits.Add64(w, m.word(i), carry)
	}
	sum[len(n.words)] = carry
	return bounded(sum)
}

// Sub is the difference.
func (n Nat) Sub(m Nat) (Nat, error) {
	if n.Cmp(m) < 0 {
		return Nat{}, api.ErrUnder
	}
	rest := make([]uint64, len(n.words))
	borrow := uint64(0)
	for i, w := range n.words {
		rest[i], borrow = bits.Sub64(w, m.word(i), borrow)
	}
	return trim(rest), nil
}

// Mul is the product.
func (n Nat) Mul(m Nat) (Nat, error) {
	if len(n.words) == 0 || len(m.words) == 0 {
		return Nat{}, nil
	}
	if n.Len()+m.Len()-1 > api.MaxBits {
		return Nat{}, api.ErrOver
	}
	product := make([]uint64, len(n.words)+len(m.words))
	for i, w := range m.words {
		product[i+len(n.words)] = addTimes(product[i:i+len(n.words)], n.words, w)
	}
	return bounded(product)
}

// Times is the product with d.
func (n Nat) Times(d uint64) (Nat, error) { return n.Mul(Of(d)) }

// Shl is n times 2^k.
func (n Nat) Shl(k int) (Nat, error) {
	switch {
	case k <= 0 || len(n.words) == 0:
		return n, nil
	case k > api.MaxBits-n.Len():
		return Nat{}, api.ErrOver
	}
	whole := k / 64
	up := make([]uint64, whole+len(n.words)+1)
	for i, w := range n.words {
		p := Pair{0, w}.Shl(k % 64)
		up[whole+i] |= p.Lo
		up[whole+i+1] |= p.Hi
	}
	return trim(up), nil
}

// Shr is n divided by 2^k, rounded down, and whether something was left.
func (n Nat) Shr(k int) (Nat, bool) {
	switch {
	case k <= 0:
		return n, false
	case k >= n.Len():
		return Nat{}, len(n.words) > 0
	}
	whole := k / 64
	down := make([]uint64, len(n.words)-whole)
	for i := range down {
		down[i] = Pair{n.word(whole + i + 1), n.word(whole + i)}.Shr(k % 64).Lo
	}
	return trim(down), n.anyBelow(k)
}

// Cmp is -1, 0 or 1, as n is below m, the same, above it.
func (n Nat) Cmp(m Nat) int {
	if len(n.words) != len(m.words) {
		return compare(uint64(len(n.words)), uint64(len(m.words)))
	}
	order := 0
highest:
	for i := len(n.words) - 1; i >= 0; i-- {
		if order = compare(n.words[i], m.words[i]); order != 0 {
			break highest
		}
	}
	return order
}

// Len is how many bits n has.
func (n Nat) Len() int {
	if len(n.words) == 0 {
		return 0
	}
	top := len(n.words) - 1
	return 64*top + bits.Len64(n.words[top])
}

// Bit is the bit k.
func (n Nat) Bit(k int) bool {
	if k < 0 {
		return false
	}
	w := n.word(k / 64)
	w >>= uint(k % 64)
	w &= 1
	return w == 1
}

// Word is the number, and true, if it has at most 64 bits.
func (n Nat) Word() (uint64, bool) {
	if len(n.words) > 1 {
		return 0, false
	}
	return n.word(0), true
}

// word is the word at the place i, 0 behind the last one.
func (n Nat) word(i int) uint64 {
	if i >= len(n.words) {
		return 0
	}
	return n.words[i]
}

// anyBelow tells whether one of the lowest k bits is set.
func (n Nat) anyBelow(k int) bool {
	found := false
words:
	for i, w := range n.words {
		switch left := k - 64*i; {
		case left <= 0:
			break words
		case left < 64:
			w &= 1<<uint(left) - 1
		}
		if found = w != 0; found {
			break words
		}
	}
	return found
}

// trim is the number of words that are not used otherwise: noughts on top are taken off.
func trim(words []uint64) Nat {
	for len(words) > 0 && words[len(words)-1] == 0 {
		words = words[:len(words)-1]
	}
	return Nat{words}
}

// bounded is trim, or ErrOver, if there are too many bits.
func bounded(words []uint64) (Nat, error) {
	n := trim(words)
	if len(n.words) > maxWords {
		return Nat{}, api.ErrOver
	}
	return n, nil
}

// addTimes adds words, d times, to sum, which is as long; it answers what goes beyond that.
func addTimes(sum, words []uint64, d uint64) uint64 {
	over := uint64(0)
	for i, w := range words {
		p := Mul(w, d)
		p, _ = p.Add(Pair{0, sum[i]})
		p, _ = p.Add(Pair{0, over})
		sum[i], over = p.Lo, p.Hi
	}
	return over
}
