package book_test

import (
	"bytes"
	"crypto/sha256"
	"encoding/hex"
	"fmt"
	"math"
	"math/bits"
	"math/rand"
	"slices"
	"testing"

	"affidavit/api"
	"affidavit/book"
)

func leaf(s string) api.Digest { return sha256.Sum256(append([]byte{0}, s...)) }

func pair(l, r api.Digest) api.Digest {
	return sha256.Sum256(append(append([]byte{1}, l[:]...), r[:]...))
}

func half(n int) int {
	k := 1
	for 2*k < n {
		k *= 2
	}
	return k
}

// root, stands and grew are those of the document.
func root(l []api.Digest) api.Digest {
	switch len(l) {
	case 0:
		return sha256.Sum256(nil)
	case 1:
		return l[0]
	}
	k := half(len(l))
	return pair(root(l[:k]), root(l[k:]))
}

func stands(i int, l []api.Digest) []api.Digest {
	if len(l) == 1 {
		return nil
	}
	k := half(len(l))
	if i < k {
		return append(stands(i, l[:k]), root(l[k:]))
	}
	return append(stands(i-k, l[k:]), root(l[:k]))
}

func growth(m int, l []api.Digest, known bool) []api.Digest {
	switch {
	case m == len(l) && known:
		return nil
	case m == len(l):
		return []api.Digest{root(l)}
	}
	k := half(len(l))
	if m <= k {
		return append(growth(m, l[:k], known), root(l[k:]))
	}
	return append(growth(m-k, l[k:], false), root(l[:k]))
}

func grew(m int, l []api.Digest) []api.Digest {
	if m == 0 {
		return nil
	}
	return growth(m, l, true)
}

func peaks(l []api.Digest) []api.Digest {
	if len(l) == 0 {
		return nil
	}
	p := half(len(l) + 1)
	return append([]api.Digest{root(l[:p])}, peaks(l[p:])...)
}

// made is a book of n entries, and their leaves.
func made(t testing.TB, n int) (*book.Book, []api.Digest) {
	t.Helper()
	b := book.New()
	var l []api.Digest
	for i := range n {
		s := fmt.Sprint("entry ", i)
		if at, err := b.Append([]byte(s)); at != i || err != nil {
			t.Fatalf("Append: %d, %v", at, err)
		}
		l = append(l, leaf(s))
	}
	return b, l
}

func TestExamples(t *testing.T) {
	d := book.Empty()
	if hex.EncodeToString(d[:]) != "e3b0c44298fc1c149afbf4c8996fb92427ae41e4649b934ca495991b7852b855" {
		t.Errorf("Empty: %x", d)
	}
	d = book.Leaf(nil)
	if hex.EncodeToString(d[:]) != "6e340b9cffb37a989ca544e6bb780a2c78901d3fb33738768511a30617afa01d" {
		t.Errorf("Leaf of nothing: %x", d)
	}
	a, b, c := leaf("a"), leaf("b"), leaf("c")
	ab := book.Pair(a, b)
	if book.Leaf([]byte("a")) != a || ab != pair(a, b) || ab == book.Pair(b, a) {
		t.Error("Leaf, Pair")
	}
	k := book.New()
	if at, err := k.Append([]byte("a"), []byte("b"), []byte("c")); at != 0 || err != nil || k.Size() != 3 {
		t.Errorf("Append: %d, %v", at, err)
	}
	for n, want := range []api.Digest{book.Empty(), a, ab, pair(ab, c)} {
		if r, err := k.Root(n); r != want || err != nil {
			t.Errorf("Root(%d): %v", n, err)
		}
	}
	for _, c := range []struct {
		what string
		f    func() ([]api.Digest, error)
		want []api.Digest
		err  error
	}{
		{"Stands(0, 1)", func() ([]api.Digest, error) { return k.Stands(0, 1) }, nil, nil}, {"Stands(0, 3)", func() ([]api.Digest, error) { return k.Stands(0, 3) }, []api.Digest{b, c}, nil}, {"Stands(2, 3)", func() ([]api.Digest, error) { return k.Stands(2, 3) }, []api.Digest{ab}, nil}, {"Stands(3, 3)", func() ([]api.Digest, error) { return k.Stands(3, 3) }, nil, api.ErrArg}, {"Stands(0, 0)", func() ([]api.Digest, error) { return k.Stands(0, 0) }, nil, api.ErrArg}, {"Stands(-1, 3)", func() ([]api.Digest, error) { return k.Stands(-1, 3) }, nil, api.ErrArg}, {"Stands(0, 4)", func() ([]api.Digest, error) { return k.Stands(0, 4) }, nil, api.ErrArg},
		{"Grew(0, 3)", func() ([]api.Digest, error) { return k.Grew(0, 3) }, nil, nil}, {"Grew(3, 3)", func() ([]api.Digest, error) { return k.Grew(3, 3) }, nil, nil}, {"Grew(2, 3)", func() ([]api.Digest, error) { return k.Grew(2, 3) }, []api.Digest{c}, nil}, {"Grew(1, 3)", func() ([]api.Digest, error) { return k.Grew(1, 3) }, []api.Digest{b, c}, nil}, {"Grew(1, 2)", func() ([]api.Digest, error) { return k.Grew(1, 2) }, []api.Digest{b}, nil}, {"Grew(4, 3)", func() ([]api.Digest, error) { return k.Grew(4, 3) }, nil, api.ErrArg}, {"Grew(0, 4)", func() ([]api.Digest, error) { return k.Grew(0, 4) }, nil, api.ErrArg}, {"Grew(-1, 3)", func() ([]api.Digest, error) { return k.Grew(-1, 3) }, nil, api.ErrArg}, {"Grew(0, -1)", func() ([]api.Digest, error) { return k.Grew(0, -1) }, nil, api.ErrArg},
		{"Peaks(3)", func() ([]api.Digest, error) { return k.Peaks(3) }, []api.Digest{ab, c}, nil}, {"Peaks(0)", func() ([]api.Digest, error) { return k.Peaks(0) }, nil, nil}, {"Peaks(4)", func() ([]api.Digest, error) { return k.Peaks(4) }, nil, api.ErrArg}, {"Peaks(-1)", func() ([]api.Digest, error) { return k.Peaks(-1) }, nil, api.ErrArg},
	} {
		if got, err := c.f(); !slices.Equal(got, c.want) || err != c.err {
			t.Errorf("%s: %x, %v", c.what, got, err)
		}
	}
	e := leaf("e")
	dd := leaf("d")
	k.Append([]byte("d"), []byte("e"))
	if got, _ := k.Grew(3, 4); !slices.Equal(got, []api.Digest{c, dd, ab}) {
		t.Errorf("Grew(3, 4): %x", got)
	}
	if got, _ := k.Grew(3, 5); !slices.Equal(got, []api.Digest{c, dd, ab, e}) {
		t.Errorf("Grew(3, 5): %x", got)
	}
}

func TestChecksExamples(t *testing.T) {
	a, b, c := leaf("a"), leaf("b"), leaf("c")
	ab := pair(a, b)
	abc := pair(ab, c)
	l := func(d ...api.Digest) []api.Digest { return d }
	empty := book.Empty()
	proof := func(n int) error { return api.Spot{Err: api.ErrProof, At: n} }
	for i, k := range []struct{ err, want error }{
		{book.CheckEntry(abc, 3, 0, a, l(b, c)), nil}, {book.CheckEntry(abc, 3, 0, a, l(b)), proof(2)}, {book.CheckEntry(abc, 3, 0, a, l(c, b)), api.ErrRoot}, {book.CheckEntry(abc, 0, 0, a, nil), api.ErrArg}, {book.CheckEntry(abc, 3, 3, a, nil), api.ErrArg}, {book.CheckEntry(abc, 3, -1, a, nil), api.ErrArg}, {book.CheckEntry(abc, -1, 0, a, nil), api.ErrArg}, {book.CheckEntry(abc, api.MaxTime+1, 0, a, nil), api.ErrArg}, {book.CheckEntry(abc, api.MaxTime, 0, a, nil), proof(53)}, {book.CheckEntry(abc, api.MaxTime, api.MaxTime-1, a, nil), proof(52)}, {book.CheckEntry(a, 1, 0, a, nil), nil}, {book.CheckEntry(a, 1, 0, b, nil), api.ErrRoot}, {book.CheckEntry(a, 1, 0, a, l(b)), proof(0)}, {book.CheckEntry(abc, math.MaxInt, 0, a, nil), api.ErrArg},
		{book.CheckGrowth(0, empty, 3, abc, nil), nil}, {book.CheckGrowth(0, a, 3, abc, nil), api.ErrRoot}, {book.CheckGrowth(2, ab, 3, abc, l(c)), nil}, {book.CheckGrowth(2, a, 3, abc, l(c)), api.ErrRoot}, {book.CheckGrowth(2, ab, 3, ab, l(c)), api.ErrRoot}, {book.CheckGrowth(0, empty, 0, empty, nil), nil}, {book.CheckGrowth(0, empty, 0, a, nil), api.ErrRoot}, {book.CheckGrowth(0, a, 0, a, nil), api.ErrRoot}, {book.CheckGrowth(0, empty, 3, abc, l(c)), proof(0)}, {book.CheckGrowth(0, a, 3, abc, l(c)), proof(0)}, {book.CheckGrowth(3, abc, 3, abc, nil), nil}, {book.CheckGrowth(3, abc, 3, ab, nil), api.ErrRoot}, {book.CheckGrowth(3, abc, 3, abc, l(c)), proof(0)}, {book.CheckGrowth(1, a, 3, abc, l(b, c)), nil}, {book.CheckGrowth(1, a, 3, abc, nil), proof(2)}, {book.CheckGrowth(1, b, 3, abc, l(b, c)), api.ErrRoot}, {book.CheckGrowth(4, a, 3, abc, nil), api.ErrArg}, {book.CheckGrowth(-1, a, 3, abc, nil), api.ErrArg}, {book.CheckGrowth(0, empty, -1, abc, nil), api.ErrArg}, {book.CheckGrowth(0, empty, api.MaxTime+1, abc, nil), api.ErrArg}, {book.CheckGrowth(0, empty, api.MaxTime, abc, nil), nil}, {book.CheckGrowth(1, empty, api.MaxTime, abc, nil), proof(53)}, {book.CheckGrowth(api.MaxTime-1, empty, api.MaxTime, abc, nil), proof(53)},
	} {
		if k.err != k.want {
			t.Errorf("case %d: %v, want %v", i, k.err, k.want)
		}
	}
	for i, k := range []struct {
		n     int
		peaks []api.Digest
		want  api.Digest
		err   error
	}{{3, l(ab, c), abc, nil}, {3, l(a), api.Digest{}, proof(2)}, {0, nil, empty, nil}, {0, l(a), api.Digest{}, proof(0)}, {-1, nil, api.Digest{}, api.ErrArg}, {api.MaxTime + 1, nil, api.Digest{}, api.ErrArg}, {api.MaxTime, nil, api.Digest{}, proof(53)}, {4, l(abc), abc, nil}, {7, l(a, b, c), pair(a, pair(b, c)), nil}} {
		if d, err := book.Fold(k.n, k.peaks); d != k.want || err != k.err {
			t.Errorf("case %d: Fold: %v", i, err)
		}
	}
}

func TestAgainstReference(t *testing.T) {
	const most = 70
	b, l := made(t, most)
	for n := range most + 1 {
		r, err := b.Root(n)
		p, err2 := b.Peaks(n)
		fold, err3 := book.Fold(n, p)
		if err != nil || err2 != nil || err3 != nil || r != root(l[:n]) || !slices.Equal(p, peaks(l[:n])) || fold != r {
			t.Fatalf("Root, Peaks, Fold of %d: %v, %v, %v", n, err, err2, err3)
		}
		for i := range n {
			proof, err := b.Stands(i, n)
			if err != nil || !slices.Equal(proof, stands(i, l[:n])) || len(proof) > bits.Len(uint(n-1)) {
				t.Fatalf("Stands(%d, %d): %v", i, n, err)
			}
			if err := book.CheckEntry(r, n, i, l[i], proof); err != nil {
				t.Fatalf("CheckEntry(%d, %d): %v", n, i, err)
			}
			checkOtherEntries(t, r, n, i, l, proof)
		}
		for m := range n + 1 {
			proof, err := b.Grew(m, n)
			if err != nil || !slices.Equal(proof, grew(m, l[:n])) || n > 0 && len(proof) > bits.Len(uint(n-1))+1 {
				t.Fatalf("Grew(%d, %d): %v", m, n, err)
			}
			if err := book.CheckGrowth(m, root(l[:m]), n, r, proof); err != nil {
				t.Fatalf("CheckGrowth(%d, %d): %v", m, n, err)
			}
			checkOtherGrowth(t, m, n, l, proof)
		}
	}
}

// checkOtherEntries: nothing else is taken.
func checkOtherEntries(t *testing.T, r api.Digest, n, i int, l []api.Digest, proof []api.Digest) {
	t.Helper()
	for k := range n {
		if k != i && book.CheckEntry(r, n, i, l[k], proof) != api.ErrRoot {
			t.Fatalf("the leaf %d stands at %d of %d", k, i, n)
		}
		if err := book.CheckEntry(r, n, k, l[i], proof); k != i && err == nil {
			t.Fatalf("the leaf %d stands at %d of %d", i, k, n)
		}
	}
	for k := range proof {
		other := slices.Clone(proof)
		other[k][k%32] ^= 1
		if book.CheckEntry(r, n, i, l[i], other) != api.ErrRoot {
			t.Fatalf("another proof of %d in %d", i, n)
		}
	}
	for _, other := range [][]api.Digest{append(slices.Clone(proof), r), proof[:max(0, len(proof)-1)]} {
		if err := book.CheckEntry(r, n, i, l[i], other); len(other) != len(proof) && err != (api.Spot{Err: api.ErrProof, At: len(proof)}) {
			t.Fatalf("a proof of another length of %d in %d: %v", i, n, err)
		}
	}
}

func checkOtherGrowth(t *testing.T, m, n int, l []api.Digest, proof []api.Digest) {
	t.Helper()
	old, r := root(l[:m]), root(l[:n])
	for k := range n {
		if other := root(l[:k]); k != m && book.CheckGrowth(m, other, n, r, proof) != api.ErrRoot || m > 0 && k != n && book.CheckGrowth(m, old, n, other, proof) != api.ErrRoot {
			t.Fatalf("growth of %d out of %d with the root of %d", n, m, k)
		}
	}
	for k := range proof {
		other := slices.Clone(proof)
		other[k][k%32] ^= 128
		if book.CheckGrowth(m, old, n, r, other) != api.ErrRoot {
			t.Fatalf("another proof of growth of %d out of %d", n, m)
		}
	}
	if err := book.CheckGrowth(m, old, n, r, append(slices.Clone(proof), r)); err != (api.Spot{Err: api.ErrProof, At: len(proof)}) {
		t.Fatalf("a proof of another length of %d out of %d: %v", n, m, err)
	}
}

func TestEntries(t *testing.T) {
	k := book.New()
	if at, err := k.Append(); at != 0 || err != nil || k.Size() != 0 {
		t.Errorf("Append of nothing: %d, %v", at, err)
	}
	b := []byte("ab")
	k.Append([]byte("x"), nil)
	if at, err := k.Append(b, b); at != 2 || err != nil || k.Size() != 4 {
		t.Errorf("Append: %d, %v", at, err)
	}
	b[0] = 'y'
	for i, want := range []string{"x", "", "ab", "ab"} {
		e, err := k.Entry(i)
		if string(e) != want || err != nil {
			t.Errorf("Entry(%d): %s, %v", i, e, err)
		}
		copy(e, "zz")
	}
	if e, _ := k.Entry(2); string(e) != "ab" {
		t.Errorf("entries are shared: %s", e)
	}
	for _, i := range []int{-1, 4, 5, math.MinInt, math.MaxInt} {
		if e, err := k.Entry(i); e != nil || err != api.ErrArg {
			t.Errorf("Entry(%d): %v", i, err)
		}
	}
	var none *book.Book
	_, err1 := none.Append(nil)
	_, err2 := none.Entry(0)
	_, err3 := none.Root(0)
	_, err4 := none.Stands(0, 1)
	_, err5 := none.Grew(0, 0)
	_, err6 := none.Peaks(0)
	if none.Size() != 0 || none.Copy() != nil || err1 != api.ErrNil || err2 != api.ErrNil || err3 != api.ErrNil || err4 != api.ErrNil || err5 != api.ErrNil || err6 != api.ErrNil {
		t.Error("calls of nil")
	}
}

func TestLimits(t *testing.T) {
	long := make([]byte, api.MaxEntry)
	k := book.New()
	before, _ := k.Root(0)
	if _, err := k.Append([]byte("a"), append(long, 0)); err != api.ErrLong || k.Size() != 0 {
		t.Errorf("an entry too long: %v", err)
	}
	if after, _ := k.Root(0); after != before {
		t.Error("a refused call has changed something")
	}
	for range 15 {
		k.Append(long)
	}
	if at, err := k.Append(long[1:], []byte("x")); at != 15 || err != nil {
		t.Errorf("as much as may be: %v", err)
	}
	if _, err := k.Append([]byte("x")); err != api.ErrLong || k.Size() != 17 {
		t.Errorf("too much: %v", err)
	}
	if at, err := k.Append(nil); at != 17 || err != nil {
		t.Errorf("an entry without bytes: %v", err)
	}
	many := book.New()
	entries := make([][]byte, api.MaxEntries)
	if _, err := many.Append(append(entries, nil)...); err != api.ErrLong || many.Size() != 0 {
		t.Errorf("too many: %v", err)
	}
	if at, err := many.Append(entries...); at != 0 || err != nil || many.Size() != api.MaxEntries {
		t.Errorf("as many as may be: %v", err)
	}
	if at, err := many.Append(nil); at != 0 || err != api.ErrLong {
		t.Errorf("one too many: %v", err)
	}
	r, _ := many.Root(api.MaxEntries)
	proof, err := many.Stands(12345, api.MaxEntries)
	if err != nil || len(proof) != 16 || book.CheckEntry(r, api.MaxEntries, 12345, leaf(""), proof) != nil {
		t.Errorf("a proof of many: %v", err)
	}
}

func TestCopy(t *testing.T) {
	r := rand.New(rand.NewSource(1))
	for range 200 {
		n := r.Intn(40)
		k, l := made(t, n)
		c := k.Copy()
		for i := range r.Intn(20) {
			k.Append([]byte(fmt.Sprint("k", i)))
			l = append(l, leaf(fmt.Sprint("k", i)))
		}
		other := slices.Clone(l[:n])
		for i := range r.Intn(20) {
			c.Append([]byte(fmt.Sprint("c", i)))
			other = append(other, leaf(fmt.Sprint("c", i)))
		}
		if k.Size() != len(l) || c.Size() != len(other) {
			t.Fatal("Size of a Copy")
		}
		for m := range max(len(l), len(other)) + 1 {
			if a, err := k.Root(m); m <= len(l) && (err != nil || a != root(l[:m])) {
				t.Fatalf("Root(%d) of a book that was copied: %v", m, err)
			}
			if b, err := c.Root(m); m <= len(other) && (err != nil || b != root(other[:m])) {
				t.Fatalf("Root(%d) of a Copy: %v", m, err)
			}
		}
		for i := range len(other) {
			e, _ := c.Entry(i)
			if leaf(string(e)) != other[i] {
				t.Fatalf("Entry(%d) of a Copy: %s", i, e)
			}
		}
	}
}

// TestOneBehindTheOther: P27.9.
func TestOneBehindTheOther(t *testing.T) {
	k, _ := made(t, 40)
	for a := range 40 {
		for b := a; b <= 40; b += 3 {
			for c := b; c <= 40; c += 5 {
				ra, _ := k.Root(a)
				rb, _ := k.Root(b)
				rc, _ := k.Root(c)
				ab, _ := k.Grew(a, b)
				bc, _ := k.Grew(b, c)
				ac, _ := k.Grew(a, c)
				if book.CheckGrowth(a, ra, b, rb, ab) != nil || book.CheckGrowth(b, rb, c, rc, bc) != nil || book.CheckGrowth(a, ra, c, rc, ac) != nil {
					t.Fatalf("growth from %d to %d and to %d", a, b, c)
				}
			}
		}
	}
}

func TestProofsAreNew(t *testing.T) {
	k, l := made(t, 9)
	for _, f := range []func() []api.Digest{func() []api.Digest { p, _ := k.Stands(3, 9); return p }, func() []api.Digest { p, _ := k.Grew(3, 9); return p }, func() []api.Digest { p, _ := k.Peaks(9); return p }} {
		p := f()
		for i := range p[:cap(p)] {
			p[:cap(p)][i] = api.Digest{}
		}
	}
	if r, _ := k.Root(9); r != root(l) {
		t.Error("proofs are shared")
	}
	p, _ := k.Stands(3, 9)
	if !bytes.Equal(p[0][:], l[2][:]) {
		t.Error("proofs are shared")
	}
}
