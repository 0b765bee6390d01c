package lex_test

import (
	"bytes"
	"math"
	"math/rand"
	"slices"
	"strconv"
	"strings"
	"testing"
	"unicode/utf8"

	"affidavit/api"
	"affidavit/lex"
)

func mark(c byte, at int) api.Token { return api.Mark{Span: api.Span{At: at, Size: 1}, Sign: c} }
func term(s string, at int) api.Token {
	return api.Term{Span: api.Span{At: at, Size: len(s)}, Name: s}
}
func num(x float64, at, size int) api.Token {
	return api.Num{Span: api.Span{At: at, Size: size}, Bits: math.Float64bits(x)}
}
func str(s string, at, size int) api.Token {
	return api.Str{Span: api.Span{At: at, Size: size}, Text: s}
}
func spot(e api.Errno, at int) error { return api.Spot{Err: e, At: at} }

func TestRowExamples(t *testing.T) {
	for s, want := range map[string][]api.Token{
		`{"a" : -1.5e1}`:             {mark('{', 0), str("a", 1, 3), mark(':', 5), num(-15, 7, 6), mark('}', 13)},
		"01":                         {num(0, 0, 1), num(1, 1, 1)},
		"truefalse":                  {term("true", 0), term("false", 4)},
		"-0":                         {num(0, 0, 2)},
		`"\u00e9\ud83d\ude00"`:       {str("é😀", 0, 20)},
		"1e-400":                     {num(0, 0, 6)},
		"":                           nil,
		" \t\r\n":                    nil,
		"null":                       {term("null", 0)},
		`"\"\\\/\b\f\n\r\t"`:         {str("\"\\/\b\f\n\r\t", 0, 18)},
		"[],:":                       {mark('[', 0), mark(']', 1), mark(',', 2), mark(':', 3)},
		"1-2":                        {num(1, 0, 1), num(-2, 1, 2)},
		`1"a"2`:                      {num(1, 0, 1), str("a", 1, 3), num(2, 4, 1)},
		"0.50E+01 ":                  {num(5, 0, 8)},
		`"é` + "\x7F" + `€😀"`:        {str("é\x7F€😀", 0, 12)},
		`"\uD800\uDC00\uDBFF\uDFFF"`: {str("\U00010000\U0010FFFF", 0, 26)},
		`"\uD7FF\uE000\uABCD\u0000"`: {str("\uD7FF\uE000\uABCD\x00", 0, 26)},
		`""`:                         {str("", 0, 2)},
		`"\ud83d\ude00\ud83d\ude00"`: {str("😀😀", 0, 26)},
		"-0.0e0null":                 {num(0, 0, 6), term("null", 6)},
	} {
		l, err := lex.Row([]byte(s))
		if err != nil || !slices.Equal(l, want) {
			t.Errorf("Row(%s): %v, %v", s, l, err)
		}
	}
}

func TestErrorExamples(t *testing.T) {
	for s, want := range map[string]error{
		"tru": spot(api.ErrEnd, 3), "trx": spot(api.ErrToken, 2), "1.": spot(api.ErrEnd, 2), "1.e": spot(api.ErrToken, 2), "-": spot(api.ErrEnd, 1), "--": spot(api.ErrToken, 1), "1e": spot(api.ErrEnd, 2), "1e+": spot(api.ErrEnd, 3), "1ex": spot(api.ErrToken, 2), "1e+-": spot(api.ErrToken, 3), "-x": spot(api.ErrToken, 1), "1. ": spot(api.ErrToken, 2), "- 1": spot(api.ErrToken, 1),
		`"\ud800"`: spot(api.ErrLone, 7), `"\ud800\u0041"`: spot(api.ErrLone, 9), `"\udc00"`: spot(api.ErrLone, 4), `"\ud800\n"`: spot(api.ErrLone, 8), `"\uDFFF"`: spot(api.ErrLone, 4), `"\ud800a`: spot(api.ErrLone, 7), "\"\\ud800\x01": spot(api.ErrLone, 7), `"\ud800\ud800"`: spot(api.ErrLone, 10), `"\ud800\ude0g"`: spot(api.ErrLone, 12), `"\ud800\uDG00"`: spot(api.ErrLone, 10), `"\ud800\"`: spot(api.ErrLone, 8), `"\uDBFF\uE000"`: spot(api.ErrLone, 9), "\"\\ud800\xFF": spot(api.ErrLone, 7), `"\ud800\udBFF"`: spot(api.ErrLone, 10),
		`"\x"`: spot(api.ErrEscape, 2), `"\u12g4"`: spot(api.ErrEscape, 5), "\"a\n\"": spot(api.ErrControl, 2), "\"\xFF\"": spot(api.ErrChar, 1), "\"\\\n": spot(api.ErrEscape, 2), "\"\\u\"": spot(api.ErrEscape, 3), `"\ud8 `: spot(api.ErrEscape, 5), `"\udg`: spot(api.ErrEscape, 4), "\"\\\xFF": spot(api.ErrEscape, 2), `"\U0041"`: spot(api.ErrEscape, 2), `"\u00 1"`: spot(api.ErrEscape, 5),
		"\"\xC3\"": spot(api.ErrChar, 2), "\"\xE2\x82\n": spot(api.ErrChar, 3), "\"\xE2\\": spot(api.ErrChar, 2), "\"\xC0\x80": spot(api.ErrChar, 1), "\"\xED\xA0": spot(api.ErrChar, 2), "\"\xF4\x90": spot(api.ErrChar, 2), "\"\x80": spot(api.ErrChar, 1), "\"\x00": spot(api.ErrControl, 1), "\"\x1F": spot(api.ErrControl, 1), "\"é\xE2\x82\xAC\xBF": spot(api.ErrChar, 6),
		"[1e400]": spot(api.ErrRange, 1), "1e400": spot(api.ErrRange, 0), "1e400x": spot(api.ErrRange, 0), "-1e999 ": spot(api.ErrRange, 0), "1 1e999\"": spot(api.ErrRange, 2),
		"x": spot(api.ErrToken, 0), "\xEF\xBB\xBF1": spot(api.ErrToken, 0), "1\x00": spot(api.ErrToken, 1), "nul,": spot(api.ErrToken, 3), "True": spot(api.ErrToken, 0), "+1": spot(api.ErrToken, 0), ".5": spot(api.ErrToken, 0), "\x0B": spot(api.ErrToken, 0), "\xC2\xA0": spot(api.ErrToken, 0), "1.5.2": spot(api.ErrToken, 3), "\x0C": spot(api.ErrToken, 0), "'a'": spot(api.ErrToken, 0), "/": spot(api.ErrToken, 0),
		`"`: spot(api.ErrEnd, 1), `"\`: spot(api.ErrEnd, 2), `"\u00`: spot(api.ErrEnd, 5), `"\ud800`: spot(api.ErrEnd, 7), `"\ud800\`: spot(api.ErrEnd, 8), `"\ud800\udc0`: spot(api.ErrEnd, 12), "\"\xE2\x82": spot(api.ErrEnd, 3), "[nul": spot(api.ErrEnd, 4), `"\ud`: spot(api.ErrEnd, 4),
	} {
		l, err := lex.Row([]byte(s))
		if l != nil || err != want {
			t.Errorf("Row(%q): %v, %v, want %v", s, l, err, want)
		}
		leaves, err := lex.Leaves([]byte(s))
		if leaves != nil || err != want {
			t.Errorf("Leaves(%q): %v, %v, want %v", s, leaves, err, want)
		}
	}
}

// scanner reads a whole row, token by token, by the words of the document.
type scanner struct {
	b      []byte
	at     int
	tokens []api.Token
}

func (s *scanner) more() bool { return s.at < len(s.b) }

func (s *scanner) row() error {
	for s.more() {
		c, from := s.b[s.at], s.at
		switch {
		case strings.IndexByte(" \t\r\n", c) >= 0:
			s.at++
		case strings.IndexByte("{}[]:,", c) >= 0:
			s.tokens = append(s.tokens, mark(c, s.at))
			s.at++
		case c == '"':
			if err := s.text(); err != nil {
				return err
			}
		case c == '-' || c >= '0' && c <= '9':
			if err := s.number(); err != nil {
				return err
			}
		default:
			i := slices.IndexFunc([]string{"null", "true", "false"}, func(w string) bool { return w[0] == c })
			if i < 0 {
				return spot(api.ErrToken, s.at)
			}
			word := []string{"null", "true", "false"}[i]
			for k := range word {
				if !s.more() {
					return spot(api.ErrEnd, s.at)
				}
				if s.b[s.at] != word[k] {
					return spot(api.ErrToken, s.at)
				}
				s.at++
			}
			s.tokens = append(s.tokens, term(word, from))
		}
	}
	return nil
}

func (s *scanner) digits() bool {
	from := s.at
	for s.more() && s.b[s.at] >= '0' && s.b[s.at] <= '9' {
		s.at++
	}
	return s.at > from
}

func (s *scanner) missing() error {
	if !s.more() {
		return spot(api.ErrEnd, s.at)
	}
	return spot(api.ErrToken, s.at)
}

func (s *scanner) number() error {
	from := s.at
	if s.b[s.at] == '-' {
		s.at++
	}
	if s.more() && s.b[s.at] == '0' {
		s.at++
	} else if !s.digits() {
		return s.missing()
	}
	if s.more() && s.b[s.at] == '.' {
		s.at++
		if !s.digits() {
			return s.missing()
		}
	}
	if s.more() && (s.b[s.at] == 'e' || s.b[s.at] == 'E') {
		s.at++
		if s.more() && (s.b[s.at] == '+' || s.b[s.at] == '-') {
			s.at++
		}
		if !s.digits() {
			return s.missing()
		}
	}
	x, err := strconv.ParseFloat(string(s.b[from:s.at]), 64)
	if err != nil && math.IsInf(x, 0) {
		return spot(api.ErrRange, from)
	}
	if x == 0 {
		x = 0
	}
	s.tokens = append(s.tokens, num(math.Abs(x)*sign(x), from, s.at-from))
	return nil
}

func sign(x float64) float64 {
	if x < 0 {
		return -1
	}
	return 1
}

func (s *scanner) text() error {
	from := s.at
	var said []byte
	for s.at++; s.more(); {
		c := s.b[s.at]
		switch {
		case c == '"':
			s.at++
			s.tokens = append(s.tokens, str(string(said), from, s.at-from))
			return nil
		case c == '\\':
			r, err := s.escape()
			if err != nil {
				return err
			}
			said = utf8.AppendRune(said, r)
		case c < 0x20:
			return spot(api.ErrControl, s.at)
		default:
			r, n := utf8.DecodeRune(s.b[s.at:])
			if r == utf8.RuneError && n == 1 {
				return s.wrong()
			}
			s.at += n
			said = utf8.AppendRune(said, r)
		}
	}
	return spot(api.ErrEnd, s.at)
}

// wrong is where the bytes are no beginning of a right text any more.
func (s *scanner) wrong() error {
	for n := 1; n <= 4; n++ {
		if s.at+n > len(s.b) {
			return spot(api.ErrEnd, len(s.b))
		}
		if utf8.FullRune(s.b[s.at : s.at+n]) {
			return spot(api.ErrChar, s.at+n-1)
		}
	}
	panic("a form is whole")
}

func (s *scanner) escape() (rune, error) {
	if s.at++; !s.more() {
		return 0, spot(api.ErrEnd, s.at)
	}
	if i := strings.IndexByte(`"\/bfnrt`, s.b[s.at]); i >= 0 {
		s.at++
		return rune("\"\\/\b\f\n\r\t"[i]), nil
	}
	if s.b[s.at] != 'u' {
		return 0, spot(api.ErrEscape, s.at)
	}
	s.at++
	high, err := s.four(func(d string) bool { return d < "dc" || d > "df" }, api.ErrEscape)
	if err != nil || high < 0xD800 || high > 0xDBFF {
		return high, err
	}
	for _, c := range []byte(`\u`) {
		if !s.more() {
			return 0, spot(api.ErrEnd, s.at)
		}
		if s.b[s.at] != c {
			return 0, spot(api.ErrLone, s.at)
		}
		s.at++
	}
	low, err := s.four(func(d string) bool { return d >= "dc" && d <= "df" }, api.ErrLone)
	return 0x10000 + (high-0xD800)<<10 + low - 0xDC00, err
}

// four reads four digits, of which the first two must be such; else ErrLone, what is no digit is no.
func (s *scanner) four(such func(string) bool, no api.Errno) (rune, error) {
	from := s.at
	for range 4 {
		if !s.more() {
			return 0, spot(api.ErrEnd, s.at)
		}
		if strings.IndexByte("0123456789abcdefABCDEF", s.b[s.at]) < 0 {
			return 0, spot(no, s.at)
		}
		s.at++
		d := strings.ToLower(string(s.b[from:s.at]))
		if len(d) == 1 && no == api.ErrLone && d != "d" || len(d) == 2 && !such(d) {
			return 0, spot(api.ErrLone, s.at-1)
		}
	}
	n, _ := strconv.ParseUint(string(s.b[from:s.at]), 16, 16)
	return rune(n), nil
}

// random is bytes that are nearly a row of tokens.
func random(r *rand.Rand) []byte {
	pieces := []string{"{", "}", "[", "]", ":", ",", " ", "\n", "null", "true", "false", "0", "-", "1", "12", ".", "5", "e", "E", "+", "e400", `"`, `"a"`, `"`, `\`, `\u`, `\n`, `\ud83d`, `\ude00`, `\udc00`, `\u00e9`, "d8", "DC", "00", "é", "€", "😀", "\xC3", "\xE2\x82", "\xFF", "\x80", "\x01", "x", "u"}
	var b []byte
	for range r.Intn(12) {
		b = append(b, pieces[r.Intn(len(pieces))]...)
	}
	if r.Intn(4) == 0 && len(b) > 0 {
		b = b[:r.Intn(len(b))]
	}
	return b
}

// nearly is bytes of texts, so that one stands in the midst of one most of the time.
func nearly(r *rand.Rand) []byte {
	pieces := []string{"a", "é", "€", "😀", `\n`, `\"`, `\\`, `\ud83d\ude00`, `\uD83D\uDE00`, `\u0041`, `\ud83d`, `\ude00`, "\xE2", "\n", `\u12`, `\x`, `"`, `" "`, `\uDAff\udFaB`, `\ud83d\u`, `\ud83d\ud`}
	b := []byte{'"'}
	for range r.Intn(9) {
		b = append(b, pieces[r.Intn(len(pieces))]...)
	}
	return append(b, '"')
}

func TestRowAgainstScanner(t *testing.T) {
	r := rand.New(rand.NewSource(1))
	for i := range 200000 {
		b := random(r)
		if i%2 == 0 {
			b = nearly(r)
		}
		s := scanner{b: b}
		want := s.row()
		l, err := lex.Row(b)
		if err != want || err == nil && !slices.Equal(l, s.tokens) || err != nil && l != nil {
			t.Fatalf("Row(%q): %v, %v, want %v, %v", b, l, err, s.tokens, want)
		}
		checkPieces(t, r, b, s.tokens, want)
		if err == nil {
			checkTokens(t, b, l)
		}
	}
}

// checkPieces feeds b in pieces; tokens are those that must be told, behind an error those ahead of it.
func checkPieces(t *testing.T, r *rand.Rand, b []byte, tokens []api.Token, want error) {
	t.Helper()
	x := lex.New()
	var told []api.Token
	var err error
	for done := 0; done < len(b) && err == nil; {
		n := 1 + r.Intn(len(b)-done)
		err = x.Feed(b[done : done+n])
		done += n
		if err == nil && x.Place() != done {
			t.Fatalf("%q behind %d: Place %d", b, done, x.Place())
		}
		for r.Intn(2) == 0 {
			k, ok := x.Next()
			if !ok {
				if k != nil {
					t.Fatal("a token beside false")
				}
				break
			}
			told = append(told, k)
		}
	}
	fed := err != nil
	if err == nil {
		err = x.End()
	}
	for k, ok := x.Next(); ok; k, ok = x.Next() {
		told = append(told, k)
	}
	if err != want || !slices.Equal(told, tokens) || x.Held() != 0 {
		t.Fatalf("%q in pieces: %v, %v, Held %d, want %v, %v", b, told, err, x.Held(), tokens, want)
	}
	if err == nil {
		if x.Feed(nil) != api.ErrDone || x.End() != api.ErrDone || x.Feed([]byte("1")) != api.ErrDone || x.Place() != len(b) {
			t.Fatalf("%q: behind End", b)
		}
		return
	}
	place := len(b)
	if s := err.(api.Spot); fed && s.Err != api.ErrRange {
		place = s.At
	} else if fed { // found with the byte behind the number
		for place = s.At; strings.IndexByte("0123456789+-.eE", b[place]) >= 0 && lexes(b[s.At:place+1]); place++ {
		}
	}
	if x.Feed([]byte(" ")) != want || x.End() != want || x.Feed(nil) != want || x.Place() != place {
		t.Fatalf("%q: behind an error: %v, Place %d, want %d", b, x.End(), x.Place(), place)
	}
}

// lexes tells whether b is the beginning of one number.
func lexes(b []byte) bool {
	s := scanner{b: append(bytes.Clone(b), '0')}
	err := s.number()
	return (err == nil || err.(api.Spot).Err == api.ErrRange) && s.at == len(s.b)
}

// checkTokens: P9.7 and P9.8.
func checkTokens(t *testing.T, b []byte, l []api.Token) {
	t.Helper()
	var leaves []api.Leaf
	end := 0
	for _, k := range l {
		_, m := k.(api.Mark)
		_, w := k.(api.Term)
		_, n := k.(api.Num)
		_, s := k.(api.Str)
		leaf, isLeaf := k.(api.Leaf)
		if isLeaf == m || count(m, w, n, s) != 1 {
			t.Fatalf("%T", k)
		}
		if isLeaf {
			leaves = append(leaves, leaf)
			sort := leaf.Value().Sort()
			if n != (sort == api.SortNumber) || s != (sort == api.SortText) || w != (sort == api.SortNull || sort == api.SortFlag) {
				t.Fatalf("%v has the sort %d", k, sort)
			}
		}
		if k.Place() < end || len(bytes.Trim(b[end:k.Place()], " \t\r\n")) > 0 {
			t.Fatalf("%q: something is lost ahead of %v", b, k)
		}
		end = k.Place() + k.Width()
		alone, err := lex.Row(b[k.Place():end])
		if err != nil || len(alone) != 1 || alone[0].Place() != 0 || alone[0].Width() != k.Width() {
			t.Fatalf("%q alone: %v, %v", b[k.Place():end], alone, err)
		}
	}
	if len(bytes.Trim(b[end:], " \t\r\n")) > 0 {
		t.Fatalf("%q: something is lost at the end", b)
	}
	got, err := lex.Leaves(b)
	if err != nil || !slices.Equal(got, leaves) {
		t.Fatalf("Leaves(%q): %v, %v", b, got, err)
	}
}

func count(l ...bool) int {
	n := 0
	for _, b := range l {
		if b {
			n++
		}
	}
	return n
}

func TestLexerExamples(t *testing.T) {
	x := lex.New()
	if err := x.Feed([]byte("1")); err != nil || x.Held() != 1 {
		t.Errorf("Feed(1): %v, Held %d", err, x.Held())
	}
	if k, ok := x.Next(); k != nil || ok {
		t.Errorf("Next: %v", k)
	}
	if err := x.Feed([]byte("2 ]")); err != nil || x.Held() != 0 || x.Place() != 4 {
		t.Errorf("Feed(2 ]): %v, Held %d", err, x.Held())
	}
	for _, want := range []api.Token{num(12, 0, 2), mark(']', 3)} {
		if k, ok := x.Next(); k != want || !ok {
			t.Errorf("Next: %v", k)
		}
	}
	if k, ok := x.Next(); k != nil || ok {
		t.Errorf("Next: %v", k)
	}
	for s, held := range map[string]int{"[tru": 3, `["a\u00`: 6, "1 -": 1, "1.5e3": 5, "1 ": 0, "null": 0, `"a"`: 0, "\"\xE2\x82": 3, "": 0} {
		x := lex.New()
		if x.Feed([]byte(s)) != nil || x.Held() != held || x.Place() != len(s) {
			t.Errorf("Held of %q: %d", s, x.Held())
		}
	}
	x = lex.New()
	if x.Feed([]byte("x")) != spot(api.ErrToken, 0) || x.Feed([]byte("[")) != spot(api.ErrToken, 0) || x.End() != spot(api.ErrToken, 0) || x.Place() != 0 {
		t.Error("behind an error")
	}
	x = lex.New()
	if x.End() != nil || x.End() != api.ErrDone || x.Feed([]byte("1")) != api.ErrDone || x.Place() != 0 {
		t.Error("behind End")
	}
	x = lex.New()
	x.Feed([]byte("1e999"))
	if x.End() != spot(api.ErrRange, 0) || x.Place() != 5 || x.Held() != 0 || x.Feed(nil) != spot(api.ErrRange, 0) {
		t.Errorf("a number too great at the end: Place %d", x.Place())
	}
	var none *lex.Lexer
	if k, ok := none.Next(); k != nil || ok || none.Feed(nil) != api.ErrNil || none.End() != api.ErrNil || none.Place() != 0 || none.Held() != 0 {
		t.Error("calls of nil")
	}
}

func TestMaxInput(t *testing.T) {
	b := bytes.Repeat([]byte{' '}, api.MaxInput)
	b[0], b[api.MaxInput-1] = '[', '1'
	l, err := lex.Row(b)
	if err != nil || !slices.Equal(l, []api.Token{mark('[', 0), num(1, api.MaxInput-1, 1)}) {
		t.Errorf("as long as may be: %v, %v", l, err)
	}
	for _, next := range []string{" ", "x", "]", "1"} { // the byte there is not looked at
		x := lex.New()
		if err := x.Feed(append(b[:api.MaxInput:api.MaxInput], next...)); err != spot(api.ErrLong, api.MaxInput) || x.Place() != api.MaxInput || x.Held() != 0 {
			t.Errorf("one too long: %v", err)
		}
		if k, ok := x.Next(); k != mark('[', 0) || !ok {
			t.Errorf("one too long: %v", k)
		}
		if k, ok := x.Next(); ok {
			t.Errorf("the number that did not end: %v", k)
		}
	}
	copy(b[api.MaxInput-5:], "1e999")
	if l, err := lex.Row(append(b, ' ')); l != nil || err != spot(api.ErrLong, api.MaxInput) {
		t.Errorf("ErrLong is ahead of ErrRange: %v", err)
	}
}

func TestMemory(t *testing.T) {
	b := []byte(`["abc",1`)
	x := lex.New()
	x.Feed(b)
	for i := range b {
		b[i] = 'x'
	}
	x.Next()
	if k, _ := x.Next(); k != str("abc", 1, 5) {
		t.Errorf("what was fed is shared: %v", k)
	}
	if x.Feed([]byte("2 ")) != nil {
		t.Error("what was fed is shared")
	}
	x.Next()
	if k, _ := x.Next(); k != num(12, 7, 2) {
		t.Errorf("what was fed is shared: %v", k)
	}
}
