package hmac_test

import (
	"bytes"
	stdhmac "crypto/hmac"
	"crypto/sha256"
	"encoding/hex"
	"math"
	"math/rand"
	"strconv"
	"strings"
	"testing"

	"affidavit/api"
	"affidavit/hmac"
)

func keyed(key []byte, b []byte) api.Digest {
	h := stdhmac.New(sha256.New, key)
	h.Write(b)
	return api.Digest(h.Sum(nil))
}

func fill(r *rand.Rand, n int) []byte {
	b := make([]byte, n)
	r.Read(b)
	return b
}

func unhex(t *testing.T, s string) []byte {
	t.Helper()
	b, err := hex.DecodeString(s)
	if err != nil {
		t.Fatal(err)
	}
	return b
}

func TestSum(t *testing.T) {
	d := hmac.Sum(bytes.Repeat([]byte{0x0B}, 20), []byte("Hi There"))
	if !bytes.Equal(d[:], unhex(t, "B0344C61D8DB38535CA8AFCEAF0BF12B881DC200C9833DA726E9376C2E32CFF7")) {
		t.Errorf("Hi There: %x", d)
	}
	d = hmac.Sum([]byte("Jefe"), []byte("what do ya want "), []byte("for nothing?"))
	if !bytes.Equal(d[:], unhex(t, "5BDCC146BF60754E6A042426089575C75A003F089D2739839DEC58B964EC3843")) {
		t.Errorf("Jefe: %x", d)
	}
	r := rand.New(rand.NewSource(1))
	for n := range 200 {
		key, b := fill(r, n), fill(r, r.Intn(300))
		k := r.Intn(len(b) + 1)
		if hmac.Sum(key, b) != keyed(key, b) || hmac.Sum(key, b[:k], nil, b[k:]) != keyed(key, b) || hmac.Sum(key) != keyed(key, nil) {
			t.Fatalf("Sum under %x of %x", key, b)
		}
		if n < 64 && hmac.Sum(append(bytes.Clone(key), 0), b) != keyed(key, b) {
			t.Fatalf("a byte 0 behind %x", key)
		}
		if h := sha256.Sum256(key); n > 64 && hmac.Sum(h[:], b) != keyed(key, b) {
			t.Fatalf("H of %x", key)
		}
	}
}

func TestMac(t *testing.T) {
	r := rand.New(rand.NewSource(2))
	for range 300 {
		key, b := fill(r, r.Intn(100)), fill(r, r.Intn(300))
		m := hmac.New(key)
		if m.Sum() != keyed(key, nil) || m.Len() != 0 {
			t.Fatal("a new Mac")
		}
		for done := 0; done < len(b); {
			n := r.Intn(len(b)-done) + 1
			if m.Write(b[done:done+n]) != nil || m.Write(nil) != nil {
				t.Fatal("Write")
			}
			done += n
			if m.Len() != done || m.Sum() != keyed(key, b[:done]) {
				t.Fatalf("behind %d bytes", done)
			}
		}
		c := m.Copy()
		if c.Sum() != m.Sum() || c.Len() != len(b) || c.Write([]byte("x")) != nil || m.Write([]byte("yz")) != nil {
			t.Fatal("Copy")
		}
		if c.Sum() != keyed(key, append(bytes.Clone(b), 'x')) || m.Sum() != keyed(key, append(bytes.Clone(b), "yz"...)) {
			t.Fatal("what is done to a Copy is seen")
		}
		if m.Reset() != nil || m.Len() != 0 || m.Sum() != keyed(key, nil) || c.Len() != len(b)+1 || m.Write(b) != nil || m.Sum() != keyed(key, b) {
			t.Fatal("Reset")
		}
		if c.Reset() != nil || c.Sum() != keyed(key, nil) || m.Len() != len(b) {
			t.Fatal("Reset of a Copy")
		}
	}
	var none *hmac.Mac
	if none.Write(nil) != api.ErrNil || none.Reset() != api.ErrNil || none.Sum() != (api.Digest{}) || none.Copy() != nil || none.Len() != 0 {
		t.Error("calls of nil")
	}
	key := []byte("a key")
	m := hmac.New(key)
	key[0] = 'x'
	if m.Sum() != keyed([]byte("a key"), nil) || m.Reset() != nil || m.Sum() != keyed([]byte("a key"), nil) {
		t.Error("the key is shared")
	}
}

func TestEqual(t *testing.T) {
	for _, c := range []struct {
		a, b string
		want bool
	}{{"", "", true}, {"ab", "abc", false}, {"abc", "ab", false}, {"ab", "ab", true}, {"ab", "ac", false}, {"ab", "bb", false}, {"", "a", false}, {"a\x00", "a", false}, {"ab", "ba", false}, {"\x01\x01", "\x00\x00", false}} {
		if hmac.Equal([]byte(c.a), []byte(c.b)) != c.want {
			t.Errorf("Equal(%q, %q)", c.a, c.b)
		}
	}
	if !hmac.Equal(nil, []byte{}) {
		t.Error("nothing and nothing")
	}
}

// expanded is RFC 5869's.
func expanded(key, info []byte, n int) []byte {
	var out, last []byte
	for i := 1; len(out) < n; i++ {
		d := keyed(key, append(append(bytes.Clone(last), info...), byte(i)))
		last = d[:]
		out = append(out, last...)
	}
	return out[:n]
}

func TestExpand(t *testing.T) {
	// RFC 5869, A.1
	prk := hmac.Extract(unhex(t, "000102030405060708090a0b0c"), bytes.Repeat([]byte{0x0B}, 22))
	if !bytes.Equal(prk[:], unhex(t, "077709362c2e32df0ddc3f0dc47bba6390b6c73bb50f9c3122ec844ad7c2b3e5")) {
		t.Errorf("Extract: %x", prk)
	}
	okm, err := hmac.Expand(prk[:], unhex(t, "f0f1f2f3f4f5f6f7f8f9"), 42)
	if err != nil || !bytes.Equal(okm, unhex(t, "3cb25f25faacd57a90434f64d0362f2a2d2d0a90cf1a5a4c5db02d56ecc4c5bf34007208d5b887185865")) {
		t.Errorf("Expand: %x, %v", okm, err)
	}
	for _, n := range []int{-1, math.MinInt} {
		if b, err := hmac.Expand([]byte("k"), nil, n); b != nil || err != api.ErrArg {
			t.Errorf("Expand(%d): %v", n, err)
		}
	}
	for _, n := range []int{8161, math.MaxInt} {
		if b, err := hmac.Expand([]byte("k"), nil, n); b != nil || err != api.ErrLong {
			t.Errorf("Expand(%d): %v", n, err)
		}
	}
	r := rand.New(rand.NewSource(3))
	for _, n := range []int{0, 1, 31, 32, 33, 64, 100, 8159, 8160} {
		key, info := fill(r, 1+r.Intn(90)), fill(r, r.Intn(50))
		if b, err := hmac.Expand(key, info, n); err != nil || !bytes.Equal(b, expanded(key, info, n)) {
			t.Errorf("Expand(%d): %d bytes, %v", n, len(b), err)
		}
		if hmac.Extract(info, key) != keyed(info, key) {
			t.Error("Extract")
		}
	}
}

func same(a, b [][]byte) bool {
	if len(a) != len(b) {
		return false
	}
	for i := range a {
		if !bytes.Equal(a[i], b[i]) {
			return false
		}
	}
	return true
}

func TestRowExamples(t *testing.T) {
	if len(hmac.Row()) != 0 || string(hmac.Row(nil)) != "0  " || string(hmac.Row([]byte("ab"), nil)) != "2 ab 0  " || string(hmac.Row(make([]byte, 12))[:3]) != "12 " {
		t.Error("Row")
	}
	big := strconv.Itoa(1 << 31)
	for row, at := range map[string]int{
		"2 ab": 4, "02 ab ": 1, "2 abc ": 4, "x": 0, " ": 0, "0": 1, "0 ": 2, "0 x": 2, "00  ": 1, "1": 1, "12": 2, "1x": 1, "1 ": 2, "1 a": 3, "-1 ": 0, "+1 a ": 0, "0  x": 3, "0  2 a": 6, "1 a x": 4, "2 ab 0": 6, "9 abc": 5,
		big + " ": 9, "2147483647 ": 11, "2147483647": 10, "2147483650": 9, "9999999999999999999999": 9, "3 a b": 5, "1  ": 3, "2\tab ": 1,
	} {
		if parts, err := hmac.Parts([]byte(row)); parts != nil || err != (api.Spot{Err: api.ErrRow, At: at}) {
			t.Errorf("Parts(%q): %v, want %d", row, err, at)
		}
	}
	for row, want := range map[string][][]byte{"": nil, "2 ab 0  ": {[]byte("ab"), nil}, "0  0  ": {nil, nil}, "3 a b ": {[]byte("a b")}, "1   ": {[]byte(" ")}, "12 abcdefghijkl ": {[]byte("abcdefghijkl")}} {
		if parts, err := hmac.Parts([]byte(row)); err != nil || !same(parts, want) {
			t.Errorf("Parts(%q): %q, %v", row, parts, err)
		}
	}
}

func TestRowThereAndBack(t *testing.T) {
	r := rand.New(rand.NewSource(4))
	some := func() [][]byte {
		var parts [][]byte
		for range r.Intn(5) {
			part := fill(r, r.Intn(1+r.Intn(130)))
			if r.Intn(2) == 0 {
				part = []byte(strings.Repeat("1 a ", r.Intn(4)))
			}
			parts = append(parts, part)
		}
		return parts
	}
	for range 3000 {
		a, b := some(), some()
		row, more := hmac.Row(a...), hmac.Row(b...)
		parts, err := hmac.Parts(row)
		if err != nil || !same(parts, a) || !bytes.Equal(hmac.Row(parts...), row) {
			t.Fatalf("Parts(%q): %q, %v", row, parts, err)
		}
		if all := append(bytes.Clone(row), more...); !bytes.Equal(all, hmac.Row(append(a, b...)...)) {
			t.Fatalf("%q behind %q", more, row)
		}
		for k := range row { // what is cut is the beginning of a row, but where it is one itself
			_, err := hmac.Parts(row[:k])
			if err != nil && err != (api.Spot{Err: api.ErrRow, At: k}) {
				t.Fatalf("Parts(%q): %v", row[:k], err)
			}
		}
		if len(row) > 0 {
			row[r.Intn(len(row))] = byte(r.Intn(256))
			if parts, err := hmac.Parts(row); err == nil && !bytes.Equal(hmac.Row(parts...), row) {
				t.Fatalf("Row of Parts(%q): %q", row, parts)
			}
		}
	}
}

func TestRowMemory(t *testing.T) {
	row := []byte("2 ab 2 cd ")
	parts, _ := hmac.Parts(row)
	row[2] = 'x'
	_ = append(parts[0], "yyyyyyyyyyyyyyyyyyyyyyyyyyyyyyyyyyyyyyyyyyyy"...)
	if string(parts[0]) != "ab" || string(parts[1]) != "cd" || string(row) != "2 xb 2 cd " {
		t.Errorf("parts are shared: %q, %q", parts, row)
	}
}
