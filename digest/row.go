package digest

import (
	"math/bits"

	"affidavit/api"
	"affidavit/sha"
)

// taker takes the digest of a text, which is handed to it in parts.
type taker func(parts ...[]byte) api.Digest

// take only takes digests.
func take(parts ...[]byte) api.Digest { return sha.Sum(parts...) }

// The bytes with which texts begin.
const (
	ofEmpty  = "e"
	ofNull   = "n"
	ofFalse  = "f"
	ofTrue   = "t"
	ofNumber = "d"
	ofText   = "s"
	ofList   = "l"
	ofObject = "o"
	ofMember = "m"
	ofOne    = "\x00" // a row of one
	ofMore   = "\x01" // a row of more
)

// eight is a number in 8 bytes, the highest first.
func eight(n uint64) []byte {
	var b [8]byte
	for i := range b {
		b[i] = byte(n >> uint(56-8*i))
	}
	return b[:]
}

// half is how many of n digests, two or more, stand in the front part: the greatest power of two below n.
func half(n int) int { return 1 << uint(bits.Len(uint(n-1))-1) }

// row is the digest of a row of digests.
func row(l []api.Digest, take taker) api.Digest {
	if len(l) == 0 {
		return take([]byte(ofEmpty))
	}
	var part func(l []api.Digest) api.Digest
	part = func(l []api.Digest) api.Digest {
		if len(l) == 1 {
			return take([]byte(ofOne), l[0][:])
		}
		k := half(len(l))
		front := part(l[:k])
		rest := part(l[k:])
		return take([]byte(ofMore), front[:], rest[:])
	}
	return part(l)
}

// sides are the digests beside a place of a row.
func sides(l []api.Digest, i int) []api.Digest {
	if len(l) == 1 {
		return nil
	}
	k := half(len(l))
	if i < k {
		return append(sides(l[:k], i), row(l[k:], take))
	}
	return append(sides(l[k:], i-k), row(l[:k], take))
}

// count is how many sides a place of a row of n has.
func count(n, i int) int {
	c := 0
	for ; n > 1; c++ {
		if k := half(n); i < k {
			n = k
		} else {
			n, i = n-k, i-k
		}
	}
	return c
}

// fold is the digest of a row of n that has a digest at a place, with these sides.
func fold(d api.Digest, n, i int, sides []api.Digest) api.Digest {
	if n == 1 {
		return take([]byte(ofOne), d[:])
	}
	k, last := half(n), len(sides)-1
	if i < k {
		front := fold(d, k, i, sides[:last])
		return take([]byte(ofMore), front[:], sides[last][:])
	}
	rest := fold(d, n-k, i-k, sides[:last])
	return take([]byte(ofMore), sides[last][:], rest[:])
}
