package wide

import (
	"strconv"

	"affidavit/api"
)

// A chunk is as many decimal digits as a word always has room for.
const (
	chunk      = 19
	chunkPower = 10_000_000_000_000_000_000
	maxDigits  = 2467 // those of 2^MaxBits - 1
)

// Parse is the number of decimal digits; noughts may stand ahead.
func Parse(digits string) (Nat, error) {
	if digits == "" {
		return Nat{}, api.Spot{Err: api.ErrDigit}
	}
	start := len(digits)
	for i := 0; i < len(digits); i++ {
		if digits[i] < '0' || digits[i] > '9' {
			return Nat{}, api.Spot{Err: api.ErrDigit, At: i}
		}
		if digits[i] != '0' && start == len(digits) {
			start = i
		}
	}
	digits = digits[start:]
	if len(digits) > maxDigits {
		return Nat{}, api.ErrOver
	}
	return gather(digits)
}

// gather is the number of digits, which are nothing else, chunk by chunk.
func gather(digits string) (Nat, error) {
	words := make([]uint64, 0, maxWords+1)
	for len(digits) > 0 {
		n, power := min(len(digits), chunk), uint64(1)
		value := uint64(0)
		for _, c := range digits[:n] {
			value = value*10 + uint64(c-'0')
			power *= 10
		}
		digits = digits[n:]
		for i, w := range words {
			p, _ := Mul(w, power).Add(Pair{0, value})
			words[i], value = p.Lo, p.Hi
		}
		if value != 0 {
			words = append(words, value)
		}
	}
	return bounded(words)
}

// Text is the number in decimal digits.
func (n Nat) Text() string {
	if len(n.words) == 0 {
		return "0"
	}
	var chunks []uint64
	for words := n.words; len(words) > 0; {
		q, left := short(words, chunkPower)
		chunks = append(chunks, left)
		words = trim(q).words
	}
	text := strconv.AppendUint(nil, chunks[len(chunks)-1], 10)
	for i := len(chunks) - 2; i >= 0; i-- {
		// A one ahead keeps the chunk's noughts; it is cut off again.
		text = append(text, strconv.FormatUint(chunks[i]/10+chunkPower/10, 10)[1:]...)
		text = append(text, byte('0'+chunks[i]%10))
	}
	return string(text)
}
