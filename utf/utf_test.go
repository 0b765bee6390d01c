package utf_test

import (
	"math/rand"
	"slices"
	"strings"
	"testing"
	"unicode/utf16"
	"unicode/utf8"

	"affidavit/api"
	"affidavit/utf"
)

// beginning tells whether some right text begins with b.
func beginning(b []byte) bool {
	for len(b) > 0 {
		r, n := utf8.DecodeRune(b)
		if r == utf8.RuneError && n == 1 {
			return !utf8.FullRune(b)
		}
		b = b[n:]
	}
	return true
}

// want is Check's answer, by the words of the document.
func want(b []byte) error {
	for i := range b {
		if !beginning(b[:i+1]) {
			return api.Spot{Err: api.ErrByte, At: i}
		}
	}
	if !utf8.Valid(b) {
		return api.Spot{Err: api.ErrCut, At: len(b)}
	}
	return nil
}

// bytesOf is a row of forms, now and then with a byte that is out of place, or cut.
func bytesOf(r *rand.Rand) []byte {
	var b []byte
	for range r.Intn(6) {
		switch r.Intn(8) {
		case 0:
			b = append(b, byte(r.Intn(256)))
		case 1:
			edges := []byte{0x7F, 0x80, 0x8F, 0x90, 0x9F, 0xA0, 0xBF, 0xC0, 0xC1, 0xC2, 0xDF, 0xE0, 0xED, 0xEE, 0xEF, 0xF0, 0xF3, 0xF4, 0xF5, 0xFF}
			b = append(b, edges[r.Intn(len(edges))], edges[r.Intn(len(edges))])
		default:
			b = utf8.AppendRune(b, character(r))
		}
	}
	if len(b) > 0 && r.Intn(4) == 0 {
		b = b[:r.Intn(len(b))]
	}
	return b
}

func character(r *rand.Rand) rune {
	edges := []rune{0, 'a', 0x7F, 0x80, 0x7FF, 0x800, 0xD7FF, 0xE000, 0xFB33, 0xFF61, 0xFFFD, 0xFFFF, 0x10000, 0x1F600, 0x10FFFF}
	if r.Intn(2) == 0 {
		return edges[r.Intn(len(edges))]
	}
	for {
		if c := rune(r.Intn(0x110000)); c < 0xD800 || c > 0xDFFF {
			return c
		}
	}
}

func text(r *rand.Rand, n int) string {
	var s strings.Builder
	for range r.Intn(n + 1) {
		s.WriteRune(character(r))
	}
	return s.String()
}

func TestCheckExamples(t *testing.T) {
	for s, e := range map[string]error{
		"a\xC3\xA9":        nil,
		"\xC0\x80":         api.Spot{Err: api.ErrByte, At: 0},
		"\xE0\x9F\xBF":     api.Spot{Err: api.ErrByte, At: 1},
		"\xED\xA0\x80":     api.Spot{Err: api.ErrByte, At: 1},
		"\xF4\x90\x80\x80": api.Spot{Err: api.ErrByte, At: 1},
		"\xF0\x8F\xBF\xBF": api.Spot{Err: api.ErrByte, At: 1},
		"\xF5\x80\x80\x80": api.Spot{Err: api.ErrByte, At: 0},
		"a\x80":            api.Spot{Err: api.ErrByte, At: 1},
		"\xE2\x82":         api.Spot{Err: api.ErrCut, At: 2},
		"ab\xF0\x9F\x98":   api.Spot{Err: api.ErrCut, At: 5},
		"\xE2\x28":         api.Spot{Err: api.ErrByte, At: 1},
		"\xE2\x82\xC3":     api.Spot{Err: api.ErrByte, At: 2},
		"\xFF":             api.Spot{Err: api.ErrByte, At: 0},
		"":                 nil,
		"\x00\x7F":         nil,
	} {
		if err := utf.Check([]byte(s)); err != e || utf.Right(s) != (e == nil) {
			t.Errorf("Check(%x): %v, Right %v, want %v", s, err, utf.Right(s), e)
		}
	}
	if utf.Check(nil) != nil {
		t.Error("Check of nothing")
	}
}

func TestCheckAll(t *testing.T) {
	var b [4]byte
	for x := range 1 << 16 { // all beginnings of two bytes, with bytes behind that may well stand there
		b[0], b[1] = byte(x>>8), byte(x)
		for _, rest := range [][2]byte{{0x80, 0xBF}, {0xBF, 0x80}, {'a', 0x80}, {0x80, 'a'}, {0xC3, 0xA9}} {
			b[2], b[3] = rest[0], rest[1]
			for n := 1; n <= 4; n++ {
				if err := utf.Check(b[:n]); err != want(b[:n]) {
					t.Fatalf("Check(%x): %v, want %v", b[:n], err, want(b[:n]))
				}
			}
		}
	}
	r := rand.New(rand.NewSource(1))
	for range 20000 {
		b := bytesOf(r)
		if err := utf.Check(b); err != want(b) || utf.Right(string(b)) != utf8.Valid(b) {
			t.Fatalf("Check(%x): %v, want %v", b, err, want(b))
		}
	}
}

func TestDecode(t *testing.T) {
	b := []byte("a\xE2\x82\xAC\xFF")
	for _, c := range []struct {
		at, n int
		r     rune
		err   error
	}{
		{0, 1, 'a', nil}, {1, 3, 0x20AC, nil},
		{2, 0, 0, api.Spot{Err: api.ErrByte, At: 2}}, {4, 0, 0, api.Spot{Err: api.ErrByte, At: 4}},
		{5, 0, 0, api.ErrArg}, {-1, 0, 0, api.ErrArg}, {-1 << 63, 0, 0, api.ErrArg}, {1<<63 - 1, 0, 0, api.ErrArg},
	} {
		if r, n, err := utf.Decode(b, c.at); r != c.r || n != c.n || err != c.err {
			t.Errorf("Decode at %d: %x, %d, %v", c.at, r, n, err)
		}
	}
	r := rand.New(rand.NewSource(2))
	for range 20000 {
		b := bytesOf(r)
		for at := range b {
			checkDecode(t, b, at)
		}
	}
	if _, _, err := utf.Decode(nil, 0); err != api.ErrArg {
		t.Errorf("Decode of nothing: %v", err)
	}
}

func checkDecode(t *testing.T, b []byte, at int) {
	t.Helper()
	c, n, err := utf.Decode(b, at)
	r, size := utf8.DecodeRune(b[at:])
	if r != utf8.RuneError || size > 1 {
		if c != r || n != size || err != nil {
			t.Fatalf("Decode(%x, %d): %x, %d, %v", b, at, c, n, err)
		}
		return
	}
	e := want(b[at:]).(api.Spot)
	e.At += at
	if c != 0 || n != 0 || err != e {
		t.Fatalf("Decode(%x, %d): %x, %d, %v, want %v", b, at, c, n, err, e)
	}
}

func TestEncode(t *testing.T) {
	for r := rune(-5); r < 0x110005; r++ {
		b, err := utf.Encode(r)
		if !utf8.ValidRune(r) {
			if b != nil || err != api.ErrArg {
				t.Fatalf("Encode(%x): %x, %v", r, b, err)
			}
			continue
		}
		if err != nil || string(b) != string(r) {
			t.Fatalf("Encode(%x): %x, %v", r, b, err)
		}
		if c, n, err := utf.Decode(b, 0); c != r || n != len(b) || err != nil {
			t.Fatalf("Decode of Encode(%x): %x, %d, %v", r, c, n, err)
		}
	}
	for _, r := range []rune{-1 << 31, 1<<31 - 1} {
		if _, err := utf.Encode(r); err != api.ErrArg {
			t.Errorf("Encode(%x): %v", r, err)
		}
	}
}

func TestUnits(t *testing.T) {
	s := "\U0001F600a"
	if u, err := utf.Units(s); err != nil || !slices.Equal(u, []uint16{0xD83D, 0xDE00, 0x61}) {
		t.Errorf("Units: %x, %v", u, err)
	}
	if n, m, err := utf.Count(s); n != 2 || m != 3 || err != nil {
		t.Errorf("Count: %d, %d, %v", n, m, err)
	}
	r := rand.New(rand.NewSource(3))
	for range 5000 {
		s := text(r, 8)
		u, err := utf.Units(s)
		if err != nil || !slices.Equal(u, utf16.Encode([]rune(s))) {
			t.Fatalf("Units(%q): %x, %v", s, u, err)
		}
		n, m, err := utf.Count(s)
		if n != utf8.RuneCountInString(s) || m != len(u) || err != nil {
			t.Fatalf("Count(%q): %d, %d, %v", s, n, m, err)
		}
		if back, err := utf.FromUnits(u); back != s || err != nil {
			t.Fatalf("FromUnits(%x): %q, %v", u, back, err)
		}
		b := bytesOf(r)
		if e := want(b); e != nil {
			u, err := utf.Units(string(b))
			n, m, err2 := utf.Count(string(b))
			if len(u) != 0 || err != e || n != 0 || m != 0 || err2 != e {
				t.Fatalf("Units, Count of %x: %v, %v", b, err, err2)
			}
		}
	}
}

// half is the place of ErrHalf, by the words of the document; -1 of a row without.
func half(u []uint16) int {
	for i := 0; i < len(u); i++ {
		if u[i] < 0xD800 || u[i] > 0xDFFF {
			continue
		}
		if u[i] > 0xDBFF || i+1 == len(u) || u[i+1] < 0xDC00 || u[i+1] > 0xDFFF {
			return i
		}
		i++
	}
	return -1
}

func TestFromUnits(t *testing.T) {
	for _, c := range []struct {
		u  []uint16
		s  string
		at int
	}{
		{[]uint16{0xD83D, 0xDE00}, "\U0001F600", -1}, {[]uint16{0xDE00}, "", 0}, {[]uint16{0x61, 0xD83D, 0x61}, "", 1},
		{[]uint16{0xD83D, 0xD83D, 0xDE00}, "", 0}, {[]uint16{0xD83D}, "", 0}, {nil, "", -1},
		{[]uint16{0xD800, 0xDC00, 0xDBFF, 0xDFFF, 0xE000, 0xD7FF}, "\U00010000\U0010FFFF\uE000\uD7FF", -1},
		{[]uint16{0xD83D, 0xDE00, 0xDE00}, "", 2},
	} {
		s, err := utf.FromUnits(c.u)
		if c.at < 0 && (err != nil || s != c.s) || c.at >= 0 && (err != api.Spot{Err: api.ErrHalf, At: c.at} || s != "") {
			t.Errorf("FromUnits(%x): %q, %v", c.u, s, err)
		}
	}
	edges := []uint16{0, 0x61, 0xD7FF, 0xD800, 0xDBFF, 0xDC00, 0xDFFF, 0xE000, 0xFFFF}
	r := rand.New(rand.NewSource(4))
	for range 20000 {
		u := make([]uint16, r.Intn(6))
		for i := range u {
			u[i] = edges[r.Intn(len(edges))]
		}
		s, err := utf.FromUnits(u)
		if at := half(u); at >= 0 {
			if s != "" || err != (api.Spot{Err: api.ErrHalf, At: at}) {
				t.Fatalf("FromUnits(%x): %q, %v", u, s, err)
			}
			continue
		}
		if err != nil || s != string(utf16.Decode(u)) {
			t.Fatalf("FromUnits(%x): %q, %v", u, s, err)
		}
		if back, err := utf.Units(s); err != nil || !slices.Equal(back, u) {
			t.Fatalf("Units of FromUnits(%x): %x, %v", u, back, err)
		}
	}
}

func TestCompare(t *testing.T) {
	for _, c := range []struct {
		a, b string
		want int
	}{
		{"\uFF61", "\U0001F600", 1}, {"a", "ab", -1}, {"\xFF", "z", 1}, {"\x80", "\xFF", -1}, {"", "", 0}, {"", "\xFF", -1}, {"", "a", -1},
		{"\uD7FF", "\U00010000", -1}, {"\uE000", "\U0010FFFF", 1}, {"\uFFFF", "\U00010000", 1}, {"x\uEE00y", "x\U00010000y", 1},
		{"\xFFa", "\xFF", 1}, {"é\xFF", "é", 1}, {"\U0001F600", "\U0001F601", -1}, {"é", "è", 1},
	} {
		if utf.Compare(c.a, c.b) != c.want || utf.Compare(c.b, c.a) != -c.want {
			t.Errorf("Compare(%q, %q): %d, %d", c.a, c.b, utf.Compare(c.a, c.b), utf.Compare(c.b, c.a))
		}
	}
	r := rand.New(rand.NewSource(5))
	for range 30000 {
		head := text(r, 3)
		a, b := head+text(r, 3), head+text(r, 3)
		ua, ub := utf16.Encode([]rune(a)), utf16.Encode([]rune(b))
		if utf.Compare(a, b) != slices.Compare(ua, ub) {
			t.Fatalf("Compare(%q, %q): %d", a, b, utf.Compare(a, b))
		}
	}
}

func TestCompareIsAnOrder(t *testing.T) {
	r := rand.New(rand.NewSource(6))
	for range 300 {
		l := make([]string, 12)
		for i := range l {
			l[i] = string(bytesOf(r))
		}
		for _, a := range l {
			for _, b := range l {
				c := utf.Compare(a, b)
				if c != -utf.Compare(b, a) || c == 0 != (a == b) {
					t.Fatalf("Compare(%q, %q): %d", a, b, c)
				}
				if right := utf8.ValidString(a); right != utf8.ValidString(b) && (c < 0) != right {
					t.Fatalf("Compare(%q, %q): %d", a, b, c)
				} else if !right && !utf8.ValidString(b) && c != strings.Compare(a, b) {
					t.Fatalf("Compare(%q, %q): %d", a, b, c)
				}
				for _, d := range l {
					if c < 0 && utf.Compare(b, d) < 0 && utf.Compare(a, d) >= 0 {
						t.Fatalf("%q, %q, %q", a, b, d)
					}
				}
			}
		}
	}
}

func TestEach(t *testing.T) {
	r := rand.New(rand.NewSource(7))
	for range 2000 {
		s := text(r, 8)
		var at []int
		var all []rune
		for i, c := range utf.Each(s) {
			at, all = append(at, i), append(all, c)
		}
		if string(all) != s || len(all) != utf8.RuneCountInString(s) {
			t.Fatalf("Each(%q): %q", s, string(all))
		}
		for k, i := range at {
			if s[i:] != string(all[k:]) {
				t.Fatalf("Each(%q): place %d", s, i)
			}
		}
	}
	each := utf.Each("abc")
	for range 2 { // left early, and gone over again
		for i, c := range each {
			if i != 0 || c != 'a' {
				t.Errorf("Each: %d, %c", i, c)
			}
			break
		}
	}
	for range utf.Each("abc\xFF") {
		t.Error("Each of a text that is not right")
	}
	for range utf.Each("") {
		t.Error("Each of nothing")
	}
}

func TestFeederExamples(t *testing.T) {
	f := utf.New()
	cut, wrong := api.Spot{Err: api.ErrCut, At: 2}, api.Spot{Err: api.ErrByte, At: 4}
	if f.End() != nil || f.Place() != 0 || f.Held() != 0 {
		t.Error("a new Feeder")
	}
	if f.Feed([]byte("a\xE2")) != nil || f.Place() != 2 || f.Held() != 1 || f.End() != cut || f.End() != cut || f.Held() != 1 {
		t.Errorf("cut: %v", f.End())
	}
	if f.Feed([]byte("\x82\xAC")) != nil || f.Held() != 0 || f.End() != nil || f.Feed(nil) != nil {
		t.Errorf("whole: %v", f.End())
	}
	if f.Feed([]byte("\x80(")) != wrong || f.Place() != 4 || f.Held() != 0 {
		t.Errorf("wrong: %v, %d", f.End(), f.Place())
	}
	if f.Feed([]byte("a")) != wrong || f.Feed(nil) != wrong || f.End() != wrong || f.Place() != 4 {
		t.Errorf("behind a wrong byte: %v, %d", f.End(), f.Place())
	}
	f = utf.New()
	if f.Feed([]byte("ab\xF0\x9F")) != nil || f.Held() != 2 || f.Feed([]byte{0x98}) != nil || f.Held() != 3 {
		t.Errorf("Held: %d", f.Held())
	}
	if f.Feed([]byte("a")) != (api.Spot{Err: api.ErrByte, At: 5}) || f.Held() != 0 || f.Place() != 5 {
		t.Errorf("in the midst of a form: %d, %d", f.Held(), f.Place())
	}
	var none *utf.Feeder
	if none.Feed(nil) != api.ErrNil || none.End() != api.ErrNil || none.Place() != 0 || none.Held() != 0 {
		t.Error("calls of nil")
	}
}

func TestFeederInPieces(t *testing.T) {
	r := rand.New(rand.NewSource(8))
	for range 10000 {
		b := bytesOf(r)
		e := want(b)
		spot, _ := e.(api.Spot)
		f := utf.New()
		for done := 0; done < len(b); {
			n := 1 + r.Intn(len(b)-done)
			err := f.Feed(b[done : done+n])
			done += n
			if wrong := spot.Err == api.ErrByte && spot.At < done; wrong && err != e || !wrong && err != nil {
				t.Fatalf("Feed of %x behind %d: %v, want %v", b, done, err, e)
			}
			if part := want(b[:done]); f.End() != part {
				t.Fatalf("End of %x behind %d: %v, want %v", b, done, f.End(), part)
			}
		}
		place, held := len(b), 0
		switch spot.Err {
		case api.ErrByte:
			place = spot.At
		case api.ErrCut:
			for held = 1; utf8.RuneStart(b[len(b)-held]) == false; held++ {
			}
		}
		if f.End() != e || f.Place() != place || f.Held() != held {
			t.Fatalf("%x: %v, %d, %d", b, f.End(), f.Place(), f.Held())
		}
	}
}

func TestNewMemory(t *testing.T) {
	b := []byte("\xE2\x82")
	f := utf.New()
	f.Feed(b)
	b[0], b[1] = 'x', 'y'
	if f.Feed([]byte{0xAC}) != nil || f.End() != nil {
		t.Error("what was fed is shared")
	}
}
