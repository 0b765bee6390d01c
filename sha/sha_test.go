package sha_test

import (
	"bytes"
	"crypto/sha256"
	"math/rand"
	"strings"
	"sync"
	"testing"

	"affidavit/api"
	"affidavit/sha"
)

func fill(r *rand.Rand, n int) []byte {
	b := make([]byte, n)
	r.Read(b)
	return b
}

// cut is b in pieces, some of them empty.
func cut(r *rand.Rand, b []byte) [][]byte {
	var parts [][]byte
	for len(b) > 0 {
		n := min(len(b), r.Intn(1+r.Intn(150)))
		parts = append(parts, b[:n])
		b = b[n:]
	}
	return parts
}

func TestDigests(t *testing.T) {
	for text, want := range map[string]string{
		"":    "e3b0c44298fc1c149afbf4c8996fb92427ae41e4649b934ca495991b7852b855",
		"abc": "ba7816bf8f01cfea414140de5dae2223b00361a396177a9cb410ff61f20015ad",
		"abcdbcdecdefdefgefghfghighijhijkijkljklmklmnlmnomnopnopq": "248d6a61d20638b8e5c026930c3e6039a33ce45964ff2167f6ecedd419db06c1",
		strings.Repeat("a", 1000000):                               "cdc76e5c9914fb9281a1c7e284d73e67f1809a48a497200e046d39ccc7112cd0",
	} {
		d := sha.Sum([]byte(text))
		if hex := hexOf(d); hex != want {
			t.Errorf("Sum(%.10q): %s", text, hex)
		}
	}
	if sha.Sum() != sha.Sum(nil, []byte{}) || sha.Sum([]byte("a"), nil, []byte("bc")) != sha.Sum([]byte("abc")) {
		t.Error("Sum of parts")
	}
	r := rand.New(rand.NewSource(1))
	for n := range 400 {
		b := fill(r, n)
		if sha.Sum(b) != api.Digest(sha256.Sum256(b)) {
			t.Fatalf("Sum of %d bytes", n)
		}
	}
}

func hexOf(d api.Digest) string {
	const letters = "0123456789abcdef"
	var s strings.Builder
	for _, x := range d {
		s.WriteByte(letters[x>>4])
		s.WriteByte(letters[x&15])
	}
	return s.String()
}

func TestInParts(t *testing.T) {
	r := rand.New(rand.NewSource(2))
	for range 400 {
		b := fill(r, r.Intn(700))
		want := api.Digest(sha256.Sum256(b))
		parts := cut(r, b)
		if sha.Sum(parts...) != want {
			t.Fatalf("Sum of %d parts", len(parts))
		}
		h, all := sha.New(), sha.New()
		if err := all.Write(parts...); err != nil || all.Sum() != want {
			t.Fatalf("Write of %d parts: %v", len(parts), err)
		}
		done := 0
		for _, part := range parts {
			if err := h.Write(part); err != nil {
				t.Fatal(err)
			}
			done += len(part)
			if h.Len() != uint64(done) || h.Sum() != api.Digest(sha256.Sum256(b[:done])) {
				t.Fatalf("behind %d bytes: Len %d", done, h.Len())
			}
			m := h.Mid()
			if m.Blocks != uint64(done/64) || !bytes.Equal(m.Rest, b[done/64*64:done]) {
				t.Fatalf("behind %d bytes: Mid %v", done, m)
			}
			goOn(t, m, b[done:], want)
			if c := h.Copy(); c.Write(b[done:]) != nil || c.Sum() != want || h.Len() != uint64(done) {
				t.Fatalf("a Copy behind %d bytes", done)
			}
		}
		h.Reset()
		if h.Len() != 0 || h.Sum() != sha.Sum() || h.Mid().Words != sha.First() || h.Write(b) != nil || h.Sum() != want {
			t.Fatal("Reset")
		}
	}
}

// goOn takes up what Mid told, and writes what is left.
func goOn(t *testing.T, m api.Mid, left []byte, want api.Digest) {
	t.Helper()
	h, err := sha.Resume(m)
	if err != nil {
		t.Fatal(err)
	}
	n := h.Mid()
	if n.Words != m.Words || n.Blocks != m.Blocks || !bytes.Equal(n.Rest, m.Rest) {
		t.Fatalf("Resume of %v stands as %v", m, n)
	}
	if h.Write(left) != nil || h.Sum() != want {
		t.Fatalf("Resume of %v goes on otherwise", m)
	}
}

func TestCopyGoesOnByItself(t *testing.T) {
	h := sha.New()
	h.Write([]byte("ab"))
	c := h.Copy()
	c.Write([]byte("x"))
	h.Write([]byte("c"))
	if h.Sum() != sha.Sum([]byte("abc")) || c.Sum() != sha.Sum([]byte("abx")) || h.Len() != 3 {
		t.Error("Copy")
	}
	c.Reset()
	if h.Sum() != sha.Sum([]byte("abc")) {
		t.Error("Reset of a Copy")
	}
}

func TestByRounds(t *testing.T) {
	first := sha.First()
	if first[0] != 0x6a09e667 || first[7] != 0x5be0cd19 {
		t.Errorf("First: %x", first)
	}
	r := rand.New(rand.NewSource(3))
	for n := range 300 {
		b := fill(r, n)
		pad, err := sha.Pad(uint64(n))
		if err != nil || (n+len(pad))%64 != 0 || len(pad) > 72 || len(pad) < 9 {
			t.Fatalf("Pad(%d): %d bytes, %v", n, len(pad), err)
		}
		row := append(bytes.Clone(b), pad...)
		state := sha.First()
		for i := 0; i < len(row); i += 64 {
			state = sha.Round(state, [64]byte(row[i:]))
		}
		var d api.Digest
		for i := range d {
			d[i] = byte(state[i/4] >> uint(24-8*(i%4)))
		}
		if d != sha.Sum(b) {
			t.Fatalf("rounds of %d bytes", n)
		}
	}
}

func TestPad(t *testing.T) {
	p, err := sha.Pad(0)
	if err != nil || len(p) != 64 || p[0] != 0x80 || !bytes.Equal(p[1:], make([]byte, 63)) {
		t.Errorf("Pad(0): %x, %v", p, err)
	}
	if p, _ = sha.Pad(55); len(p) != 9 || p[7] != 1 || p[8] != 0xb8 {
		t.Errorf("Pad(55): %x", p)
	}
	if p, _ = sha.Pad(56); len(p) != 72 {
		t.Errorf("Pad(56): %d bytes", len(p))
	}
	p, err = sha.Pad(1<<61 - 1)
	if err != nil || len(p) != 65 || !bytes.Equal(p[57:], []byte{255, 255, 255, 255, 255, 255, 255, 248}) {
		t.Errorf("Pad(2^61 - 1): %x, %v", p, err)
	}
	for _, n := range []uint64{1 << 61, 1 << 63, 1<<64 - 1} {
		if p, err := sha.Pad(n); len(p) != 0 || err != api.ErrLong {
			t.Errorf("Pad(%d): %v", n, err)
		}
	}
}

func TestResume(t *testing.T) {
	words := [8]uint32{1, 2, 3, 4, 5, 6, 7, 8}
	for _, c := range []struct {
		m    api.Mid
		want error
	}{
		{api.Mid{Rest: make([]byte, 64)}, api.ErrArg},
		{api.Mid{Rest: make([]byte, 65), Blocks: 1 << 60}, api.ErrArg},
		{api.Mid{Blocks: 1 << 55}, api.ErrLong},
		{api.Mid{Blocks: 1<<64 - 1}, api.ErrLong},
		{api.Mid{Blocks: 1 << 58, Rest: make([]byte, 1)}, api.ErrLong},
	} {
		if h, err := sha.Resume(c.m); h != nil || err != c.want {
			t.Errorf("Resume of %d blocks, %d bytes: %v", c.m.Blocks, len(c.m.Rest), err)
		}
	}
	h, err := sha.Resume(api.Mid{Words: words, Blocks: 1<<55 - 1})
	if err != nil {
		t.Fatal(err)
	}
	before := h.Mid()
	if h.Write(make([]byte, 63)) != nil || h.Len() != 1<<61-1 {
		t.Errorf("Len: %d", h.Len())
	}
	sum := h.Sum()
	if h.Write(make([]byte, 1)) != api.ErrLong || h.Write(nil, nil, []byte{1}) != api.ErrLong || h.Len() != 1<<61-1 || h.Sum() != sum {
		t.Error("a row that is too long was written")
	}
	if h.Write() != nil || h.Write(nil) != nil {
		t.Error("nothing cannot be written")
	}
	if before.Words != words {
		t.Errorf("Words: %v", before.Words)
	}
	// Several parts are written as a whole or not at all.
	h, _ = sha.Resume(api.Mid{Blocks: 1<<55 - 1, Rest: []byte{1}})
	if h.Write([]byte{2}, make([]byte, 62)) != api.ErrLong || h.Len() != 1<<61-63 || !bytes.Equal(h.Mid().Rest, []byte{1}) {
		t.Error("a part was written")
	}
}

func TestMemory(t *testing.T) {
	rest := append(make([]byte, 0, 100), "abc"...)
	h, _ := sha.Resume(api.Mid{Words: sha.First(), Rest: rest})
	rest[0] = 'x'
	m := h.Mid()
	m.Rest[1] = 'y'
	if h.Sum() != sha.Sum([]byte("abc")) || !bytes.Equal(h.Mid().Rest, []byte("abc")) {
		t.Error("a Rest is shared")
	}
	if cap(m.Rest) > len(m.Rest) {
		copy(m.Rest[:cap(m.Rest)], bytes.Repeat([]byte{9}, cap(m.Rest)))
	}
	h.Write([]byte("d"))
	if h.Sum() != sha.Sum([]byte("abcd")) {
		t.Error("the room behind a Rest is shared")
	}
}

func TestNil(t *testing.T) {
	var h *sha.Hash
	m := h.Mid()
	if h.Write(nil) != api.ErrNil || h.Sum() != (api.Digest{}) || h.Len() != 0 || h.Copy() != nil || m.Words != [8]uint32{} || m.Blocks != 0 || len(m.Rest) != 0 {
		t.Error("calls of nil")
	}
	h.Reset()
}

func TestCompare(t *testing.T) {
	r := rand.New(rand.NewSource(4))
	digest := func() (d api.Digest) {
		for i := range d {
			if r.Intn(12) == 0 {
				d[i] = byte(r.Intn(256))
			}
		}
		return d
	}
	for range 5000 {
		a, b := digest(), digest()
		c := sha.Compare(a, b)
		if c != bytes.Compare(a[:], b[:]) || sha.Compare(b, a) != -c || c == 0 != (a == b) || sha.Compare(a, a) != 0 {
			t.Fatalf("Compare(%x, %x): %d", a, b, c)
		}
	}
	if sha.Compare(api.Digest{}, api.Digest{1}) != -1 || sha.Compare(api.Digest{31: 255}, api.Digest{1}) != -1 {
		t.Error("Compare")
	}
}

func TestAskedAtOneTime(t *testing.T) {
	h := sha.New()
	h.Write(bytes.Repeat([]byte("ab"), 500))
	want := h.Sum()
	var all sync.WaitGroup
	for range 8 {
		all.Go(func() {
			for range 50 {
				if h.Sum() != want || h.Len() != 1000 || h.Copy().Sum() != want || len(h.Mid().Rest) != 1000%64 {
					t.Error("asked at one time")
				}
			}
		})
	}
	all.Wait()
}
