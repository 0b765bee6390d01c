package base_test

import (
	"bytes"
	"encoding/base32"
	"encoding/base64"
	"encoding/hex"
	"math"
	"math/rand"
	"strings"
	"testing"

	"affidavit/api"
	"affidavit/base"
)

var alphabets = []api.Alphabet{api.Hex, api.Low, api.Web}

var letters = map[api.Alphabet]string{
	api.Hex: "0123456789abcdef",
	api.Low: "0123456789abcdefghijklmnopqrstuv",
	api.Web: "ABCDEFGHIJKLMNOPQRSTUVWXYZabcdefghijklmnopqrstuvwxyz0123456789-_",
}

func width(a api.Alphabet) int { return int(a) + 3 }

func encoded(a api.Alphabet, b []byte) string {
	switch a {
	case api.Hex:
		return hex.EncodeToString(b)
	case api.Low:
		return base32.NewEncoding(letters[a]).WithPadding(base32.NoPadding).EncodeToString(b)
	}
	return base64.RawURLEncoding.EncodeToString(b)
}

func fill(r *rand.Rand, n int) []byte {
	b := make([]byte, n)
	r.Read(b)
	return b
}

func TestWrite(t *testing.T) {
	if base.Hex([]byte{0, 255}) != "00ff" || base.Web([]byte{0, 255}) != "AP8" || base.Web(nil) != "" || base.Web([]byte("f")) != "Zg" || base.Web([]byte("fo")) != "Zm8" || base.Web([]byte{0xFB, 0xFF}) != "-_8" {
		t.Error("Hex, Web")
	}
	if s, err := base.Write(api.Low, []byte{0, 255}); s != "03vg" || err != nil {
		t.Errorf("Low: %s, %v", s, err)
	}
	r := rand.New(rand.NewSource(1))
	for n := range 200 {
		b := fill(r, n)
		for _, a := range alphabets {
			s, err := base.Write(a, b)
			if err != nil || s != encoded(a, b) {
				t.Fatalf("Write(%d, %x): %s, %v", a, b, s, err)
			}
			if back, err := base.Read(a, s); err != nil || !bytes.Equal(back, b) {
				t.Fatalf("Read(%d, %s): %x, %v", a, s, back, err)
			}
			if size, err := base.Size(a, n); size != len(s) || err != nil {
				t.Fatalf("Size(%d, %d): %d, %v", a, n, size, err)
			}
			if room, ok := base.Room(a, len(s)); room != n || !ok {
				t.Fatalf("Room(%d, %d): %d, %v", a, len(s), room, ok)
			}
		}
		if base.Hex(b) != encoded(api.Hex, b) || base.Web(b) != encoded(api.Web, b) {
			t.Fatalf("Hex, Web of %x", b)
		}
	}
	for _, a := range []api.Alphabet{0, 4, 255} {
		s, err := base.Write(a, []byte{1})
		b, err2 := base.Read(a, "00")
		n, err3 := base.Size(a, 1)
		m, ok := base.Room(a, 2)
		w, err4 := base.New(a)
		if s != "" || err != api.ErrArg || b != nil || err2 != api.ErrArg || n != 0 || err3 != api.ErrArg || m != 0 || ok || w != nil || err4 != api.ErrArg {
			t.Errorf("of the alphabet %d: %v, %v, %v, %v", a, err, err2, err3, err4)
		}
	}
}

func TestReadExamples(t *testing.T) {
	spot := func(e api.Errno, at int) error { return api.Spot{Err: e, At: at} }
	for _, c := range []struct {
		a   api.Alphabet
		s   string
		b   string
		err error
	}{
		{api.Hex, "0", "", spot(api.ErrOdd, 1)}, {api.Hex, "0G", "", spot(api.ErrLetter, 1)}, {api.Hex, "0F", "", spot(api.ErrLetter, 1)}, {api.Hex, "G0", "", spot(api.ErrLetter, 0)}, {api.Hex, "", "", nil}, {api.Hex, "00f\xFF", "", spot(api.ErrLetter, 3)}, {api.Hex, "0é", "", spot(api.ErrLetter, 1)},
		{api.Web, "Zg", "f", nil}, {api.Web, "Zh", "", spot(api.ErrRest, 1)}, {api.Web, "Z", "", spot(api.ErrOdd, 1)}, {api.Web, "Zg==", "", spot(api.ErrLetter, 2)}, {api.Web, "Z+", "", spot(api.ErrLetter, 1)}, {api.Web, "Zm9vZ", "", spot(api.ErrOdd, 5)}, {api.Web, "Zm9", "", spot(api.ErrRest, 2)}, {api.Web, "Z=", "", spot(api.ErrLetter, 1)},
		{api.Low, "03vg", "\x00\xFF", nil}, {api.Low, "03vh", "", spot(api.ErrRest, 3)}, {api.Low, "03v", "", spot(api.ErrOdd, 3)}, {api.Low, "03", "", spot(api.ErrRest, 1)}, {api.Low, "00", "\x00", nil}, {api.Low, "w0", "", spot(api.ErrLetter, 0)}, {api.Low, "000000", "", spot(api.ErrOdd, 6)},
	} {
		if b, err := base.Read(c.a, c.s); string(b) != c.b || err != c.err {
			t.Errorf("Read(%d, %q): %x, %v, want %v", c.a, c.s, b, err, c.err)
		}
	}
}

// TestReadOneWay: each text is the letters of one row of bytes at most; what is refused is no bytes' letters.
func TestReadOneWay(t *testing.T) {
	r := rand.New(rand.NewSource(2))
	for range 60000 {
		a := alphabets[r.Intn(3)]
		s := make([]byte, r.Intn(10))
		for i := range s {
			s[i] = letters[a][r.Intn(len(letters[a]))]
			if r.Intn(3) == 0 {
				s[i] = letters[a][0]
			}
			if r.Intn(60) == 0 {
				s[i] = byte(r.Intn(256))
			}
		}
		b, err := base.Read(a, string(s))
		if err == nil {
			if back, _ := base.Write(a, b); back != string(s) {
				t.Fatalf("Write of Read(%d, %q): %q", a, s, back)
			}
			continue
		}
		if b != nil || err != refused(a, string(s)) {
			t.Fatalf("Read(%d, %q): %v, want %v", a, s, err, refused(a, string(s)))
		}
	}
}

func refused(a api.Alphabet, s string) error {
	for i := range len(s) {
		if !strings.Contains(letters[a], s[i:i+1]) {
			return api.Spot{Err: api.ErrLetter, At: i}
		}
	}
	for n := range len(s) + 1 {
		if (8*n+width(a)-1)/width(a) == len(s) {
			return api.Spot{Err: api.ErrRest, At: len(s) - 1}
		}
	}
	return api.Spot{Err: api.ErrOdd, At: len(s)}
}

func TestSizeAndRoom(t *testing.T) {
	for _, c := range []struct{ a, n, want int }{{3, 0, 0}, {3, 1, 2}, {3, 2, 3}, {3, 3, 4}, {2, 5, 8}, {1, 7, 14}, {3, api.MaxInput, 22369622}, {1, api.MaxInput, 2 * api.MaxInput}} {
		if n, err := base.Size(api.Alphabet(c.a), c.n); n != c.want || err != nil {
			t.Errorf("Size(%d, %d): %d, %v", c.a, c.n, n, err)
		}
	}
	for _, n := range []int{-1, api.MaxInput + 1, math.MinInt, math.MaxInt} {
		if m, err := base.Size(api.Web, n); m != 0 || err != api.ErrArg {
			t.Errorf("Size(Web, %d): %d, %v", n, m, err)
		}
	}
	for _, a := range alphabets {
		for n := range 200 {
			want, is := 0, false
			for b := range 200 {
				if (8*b+width(a)-1)/width(a) == n {
					want, is = b, true
				}
			}
			if m, ok := base.Room(a, n); m != want || ok != is {
				t.Errorf("Room(%d, %d): %d, %v, want %d, %v", a, n, m, ok, want, is)
			}
		}
		for _, n := range []int{-1, -2, -4, -8, math.MinInt} {
			if m, ok := base.Room(a, n); m != 0 || ok {
				t.Errorf("Room(%d, %d): %d, %v", a, n, m, ok)
			}
		}
		n := math.MaxInt - 7
		if m, ok := base.Room(a, n); m != n/8*width(a) || !ok {
			t.Errorf("Room(%d, %d): %d, %v", a, n, m, ok)
		}
		if m, ok := base.Room(a, math.MaxInt-6); m != 0 || ok {
			t.Errorf("Room(%d, odd): %d, %v", a, m, ok)
		}
	}
}

func TestDigest(t *testing.T) {
	r := rand.New(rand.NewSource(3))
	for range 100 {
		d := api.Digest(fill(r, 32))
		s := base.Digest(d)
		back, err := base.ToDigest(s)
		if s != hex.EncodeToString(d[:]) || back != d || err != nil {
			t.Fatalf("Digest(%x): %s, %x, %v", d, s, back, err)
		}
	}
	for n, want := range map[int]error{0: api.ErrArg, 62: api.ErrArg, 66: api.ErrArg, 63: api.Spot{Err: api.ErrOdd, At: 63}, 64: nil} {
		if d, err := base.ToDigest(strings.Repeat("0", n)); d != (api.Digest{}) || err != want {
			t.Errorf("ToDigest of %d letters: %v", n, err)
		}
	}
	if d, err := base.ToDigest(strings.Repeat("1", 63) + "A"); d != (api.Digest{}) || err != (api.Spot{Err: api.ErrLetter, At: 63}) {
		t.Errorf("ToDigest of a great letter: %x, %v", d, err)
	}
}

func TestWriter(t *testing.T) {
	w, _ := base.New(api.Web)
	if s := w.Put([]byte("f")); s != "Z" {
		t.Errorf("Put(f): %s", s)
	}
	if s := w.Put([]byte("o")); s != "m" {
		t.Errorf("Put(o): %s", s)
	}
	if s := w.End() + "," + w.End(); s != "8," {
		t.Errorf("End, End: %s", s)
	}
	r := rand.New(rand.NewSource(4))
	for range 2000 {
		a := alphabets[r.Intn(3)]
		w, err := base.New(a)
		if err != nil {
			t.Fatal(err)
		}
		for range 2 { // behind End it begins anew
			b := fill(r, r.Intn(60))
			told := ""
			for done := 0; done < len(b); {
				n := r.Intn(min(8, len(b)-done) + 1)
				told += w.Put(b[done : done+n])
				done += n
				if len(told) != 8*done/width(a) {
					t.Fatalf("behind %d bytes %d letters are told", done, len(told))
				}
			}
			if end := w.End(); len(end) > 1 || told+end != encoded(a, b) {
				t.Fatalf("alphabet %d, %x: %s and %s", a, b, told, end)
			}
		}
	}
	var none *base.Writer
	if none.Put([]byte("f")) != "" || none.End() != "" {
		t.Error("calls of nil")
	}
}

func TestOrder(t *testing.T) {
	r := rand.New(rand.NewSource(5))
	for range 5000 {
		head := fill(r, r.Intn(3))
		b := append(bytes.Clone(head), fill(r, r.Intn(4))...)
		c := append(bytes.Clone(head), fill(r, r.Intn(4))...)
		for _, a := range []api.Alphabet{api.Hex, api.Low} {
			s, _ := base.Write(a, b)
			u, _ := base.Write(a, c)
			if strings.Compare(s, u) != bytes.Compare(b, c) {
				t.Fatalf("%x and %x: %s and %s", b, c, s, u)
			}
		}
	}
}
