package book

import (
	"math/bits"

	"affidavit/api"
)

// half is how many of n leaves, two or more, stand in the first part: the greatest power of two below n.
func half(n int) int { return 1 << uint(bits.Len(uint(n-1))-1) }

// A turn is on which side of what is proved a proof's digest stands.
type turn int

const (
	behind   turn = iota // behind it
	aheadOf              // ahead of it
	laterOne             // behind it, and not there yet when the book was smaller
)

// entryTurns are the turns of the proof that a leaf stands in a row of n, in the proof's order.
func entryTurns(n, i int) []turn {
	if n == 1 {
		return nil
	}
	k := half(n)
	if i < k {
		return append(entryTurns(k, i), behind)
	}
	return append(entryTurns(n-k, i-k), aheadOf)
}

// growthTurns are the turns of the proof that n leaves grew out of the first m, and whether it begins with what is known.
func growthTurns(n, m int, known bool) ([]turn, bool) {
	if m == n {
		return nil, known
	}
	k := half(n)
	if m <= k {
		turns, known := growthTurns(k, m, known)
		return append(turns, laterOne), known
	}
	turns, _ := growthTurns(n-k, m-k, false)
	return append(turns, aheadOf), false
}

// sums is what is put together along a proof: a root, or an earlier one and a later one.
type sums interface {
	api.Digest | [2]api.Digest
}

// climb puts a proof together, turn by turn, from what stands at its beginning.
func climb[T sums](at T, turns []turn, proof []api.Digest, join func(at T, t turn, d api.Digest) T) T {
	for i, t := range turns {
		at = join(at, t, proof[i])
	}
	return at
}

// joinOne puts a digest beside a root.
func joinOne(at api.Digest, t turn, d api.Digest) api.Digest {
	if t == aheadOf {
		return Pair(d, at)
	}
	return Pair(at, d)
}

// joinTwo puts a digest beside an earlier root and a later one.
func joinTwo(at [2]api.Digest, t turn, d api.Digest) [2]api.Digest {
	if t != laterOne {
		at[0] = joinOne(at[0], t, d)
	}
	at[1] = joinOne(at[1], t, d)
	return at
}

// CheckEntry tells whether a leaf stands in a row of such a root.
func CheckEntry(root api.Digest, n, i int, leaf api.Digest, proof []api.Digest) error {
	if n < 1 || n > api.MaxTime || i < 0 || i >= n {
		return api.ErrArg
	}
	turns := entryTurns(n, i)
	if len(proof) != len(turns) {
		return api.Spot{Err: api.ErrProof, At: len(turns)}
	}
	if climb(leaf, turns, proof, joinOne) != root {
		return api.ErrRoot
	}
	return nil
}

// CheckGrowth tells whether one root grew out of another one.
func CheckGrowth(m int, old api.Digest, n int, root api.Digest, proof []api.Digest) error {
	if n < 0 || n > api.MaxTime || m < 0 || m > n {
		return api.ErrArg
	}
	if m == 0 || m == n {
		return checkNoGrowth(m, old, n, root, proof)
	}
	turns, known := growthTurns(n, m, true)
	size := len(turns)
	if !known {
		size++
	}
	if len(proof) != size {
		return api.Spot{Err: api.ErrProof, At: size}
	}
	begin := old
	if !known {
		begin, proof = proof[0], proof[1:]
	}
	if climb([2]api.Digest{begin, begin}, turns, proof, joinTwo) != [2]api.Digest{old, root} {
		return api.ErrRoot
	}
	return nil
}

// checkNoGrowth is CheckGrowth where there is nothing to prove.
func checkNoGrowth(m int, old api.Digest, n int, root api.Digest, proof []api.Digest) error {
	switch {
	case len(proof) != 0:
		return api.Spot{Err: api.ErrProof}
	case m == 0 && old != Empty(), m == n && old != root:
		return api.ErrRoot
	}
	return nil
}

// Fold is the root of peaks.
func Fold(n int, peaks []api.Digest) (api.Digest, error) {
	if n < 0 || n > api.MaxTime {
		return api.Digest{}, api.ErrArg
	}
	size := bits.OnesCount(uint(n))
	switch {
	case len(peaks) != size:
		return api.Digest{}, api.Spot{Err: api.ErrProof, At: size}
	case size == 0:
		return Empty(), nil
	}
	root := peaks[size-1]
	for i := size - 2; i >= 0; i-- {
		root = Pair(peaks[i], root)
	}
	return root, nil
}
