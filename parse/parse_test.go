package parse_test

import (
	"bytes"
	"encoding/json"
	"errors"
	"math"
	"math/rand"
	"reflect"
	"slices"
	"strconv"
	"strings"
	"testing"
	"unicode/utf16"
	"unicode/utf8"

	"affidavit/api"
	"affidavit/canon"
	"affidavit/node"
	"affidavit/parse"
)

func spot(e api.Errno, at int) error { return api.Spot{Err: e, At: at} }

func TestReadExamples(t *testing.T) {
	for s, want := range map[string]string{
		`[1, {"a" : null}]`: `[1,{"a":null}]`, " -0.0 ": "0", `{"a":{"a":1}}`: `{"a":{"a":1}}`, "[[[]]]": "[[[]]]", `{"b":1.0,"a":[1e2,-0,"\u20ac"]}`: `{"a":[100,0,"€"],"b":1}`, ` [ 1.0e0 , {"\u0078" : null} ]`: `[1,{"x":null}]`,
		"\t\n\r 1": "1", `"\ud83d\ude00"`: `"😀"`, "{}": "{}", "[]": "[]", "true": "true", `{"":""}`: `{"":""}`, `{"a":1,"A":2}`: `{"A":2,"a":1}`, "[1,2,[3],{}]": "[1,2,[3],{}]", "1e-400": "0", `"\/"`: `"/"`,
	} {
		tree, err := parse.Read([]byte(s), 3)
		form, _ := canon.Bytes(tree)
		if err != nil || string(form) != want {
			t.Errorf("Read(%s): %s, %v, want %s", s, form, err, want)
		}
	}
}

func TestErrorExamples(t *testing.T) {
	type at struct {
		s     string
		depth int
	}
	for c, want := range map[at]error{
		{"", 3}: spot(api.ErrEnd, 0), {"[", 3}: spot(api.ErrEnd, 1), {"[1 ", 3}: spot(api.ErrEnd, 3), {`"a`, 3}: spot(api.ErrEnd, 2), {"  ", 3}: spot(api.ErrEnd, 2), {"tru", 3}: spot(api.ErrEnd, 3), {`{"a"`, 3}: spot(api.ErrEnd, 4), {"1.", 3}: spot(api.ErrEnd, 2), {"[1,", 3}: spot(api.ErrEnd, 3), {`{"a":`, 3}: spot(api.ErrEnd, 5),
		{"[1 2]", 3}: spot(api.ErrSyntax, 3), {"[,]", 3}: spot(api.ErrSyntax, 1), {`{"a"}`, 3}: spot(api.ErrSyntax, 4), {"{a:1}", 3}: spot(api.ErrSyntax, 1), {"]", 3}: spot(api.ErrSyntax, 0), {"1 2", 3}: spot(api.ErrSyntax, 2), {"[1,]", 3}: spot(api.ErrSyntax, 3), {"[}", 3}: spot(api.ErrSyntax, 1), {"{]", 3}: spot(api.ErrSyntax, 1), {`{"a":}`, 3}: spot(api.ErrSyntax, 5), {`{"a":1,}`, 3}: spot(api.ErrSyntax, 7), {"{,", 3}: spot(api.ErrSyntax, 1), {"{1:2}", 3}: spot(api.ErrSyntax, 1), {`{"a",`, 3}: spot(api.ErrSyntax, 4), {`{"a" 1`, 3}: spot(api.ErrSyntax, 5), {`{"a" "`, 3}: spot(api.ErrSyntax, 5), {"[1:", 3}: spot(api.ErrSyntax, 2), {":", 3}: spot(api.ErrSyntax, 0), {",", 3}: spot(api.ErrSyntax, 0), {"}", 3}: spot(api.ErrSyntax, 0), {"01", 3}: spot(api.ErrSyntax, 1), {"[1 \"", 3}: spot(api.ErrSyntax, 3), {"1\"", 3}: spot(api.ErrSyntax, 1), {"[1}", 3}: spot(api.ErrSyntax, 2), {`{"a":1]`, 3}: spot(api.ErrSyntax, 6), {"[] []", 3}: spot(api.ErrSyntax, 3), {"nulltrue", 3}: spot(api.ErrSyntax, 4), {`{"a":1 "b"`, 3}: spot(api.ErrSyntax, 7), {`{"a":1,2`, 3}: spot(api.ErrSyntax, 7), {"[1[", 3}: spot(api.ErrSyntax, 2), {"1x", 3}: spot(api.ErrSyntax, 1), {"-x", 3}: spot(api.ErrSyntax, 1), {"1.x", 3}: spot(api.ErrSyntax, 2), {`{"a":1,{`, 3}: spot(api.ErrSyntax, 7), {"{[", 3}: spot(api.ErrSyntax, 1), {"[]]", 3}: spot(api.ErrSyntax, 2), {"[1,,", 3}: spot(api.ErrSyntax, 3), {"\xEF\xBB\xBF1", 3}: spot(api.ErrSyntax, 0),
		{"[[[1]]]", 3}: spot(api.ErrDepth, 3), {"[1]", 1}: spot(api.ErrDepth, 1), {`{"a":1}`, 1}: spot(api.ErrDepth, 5), {"[[", 1}: spot(api.ErrDepth, 1), {"[t", 1}: spot(api.ErrDepth, 1), {`["`, 1}: spot(api.ErrDepth, 1), {"[-", 1}: spot(api.ErrDepth, 1), {"[{", 1}: spot(api.ErrDepth, 1), {"[x", 1}: spot(api.ErrSyntax, 1), {"[,", 1}: spot(api.ErrSyntax, 1), {"[ 01", 1}: spot(api.ErrDepth, 2), {`{"b":1.0,"a":[1e2]}`, 2}: spot(api.ErrDepth, 14), {`{"b":1.0,"a":[1e2]}`, 1}: spot(api.ErrDepth, 5), {"[[[[", 3}: spot(api.ErrDepth, 3), {"[1[", 2}: spot(api.ErrSyntax, 2),
		{`{"a":1,"\u0061":2}`, 3}: spot(api.ErrTwice, 7), {`{"a":{},"b":{"a":1,"a":2}}`, 3}: spot(api.ErrTwice, 19), {`{"":1,"":`, 3}: spot(api.ErrTwice, 6), {`{"b":1.0,"a":[1e2,-0,"\u20ac"],"\u0061":2}`, 3}: spot(api.ErrTwice, 31), {`{"a":1,"a`, 3}: spot(api.ErrEnd, 9), {`{"é":1,"\u00e9"x`, 3}: spot(api.ErrTwice, 8),
		{"[1e999]", 3}: spot(api.ErrRange, 1), {"1e999", 3}: spot(api.ErrRange, 0), {"1e999]", 3}: spot(api.ErrRange, 0), {"tru1", 3}: spot(api.ErrSyntax, 3), {"[1e999", 3}: spot(api.ErrRange, 1), {"[1e999,]", 3}: spot(api.ErrRange, 1), {`[1e999"`, 3}: spot(api.ErrRange, 1), {"1e999x", 3}: spot(api.ErrRange, 0), {"1 1e999", 3}: spot(api.ErrSyntax, 2), {"[1e999", 1}: spot(api.ErrDepth, 1),
		{`"\udc00"`, 3}: spot(api.ErrLone, 4), {"\xFF", 3}: spot(api.ErrSyntax, 0), {"\"a\xFF", 3}: spot(api.ErrChar, 2), {"{\"\n", 3}: spot(api.ErrControl, 2), {`{"\x`, 3}: spot(api.ErrEscape, 3), {`[1,"\ud800x`, 3}: spot(api.ErrLone, 10), {`1"\x`, 3}: spot(api.ErrSyntax, 1),
		{"1", 0}: api.ErrArg, {"1", 513}: api.ErrArg, {"", -1}: api.ErrArg, {"", math.MaxInt}: api.ErrArg,
	} {
		tree, err := parse.Read([]byte(c.s), c.depth)
		if tree != nil || err != want {
			t.Errorf("Read(%q, %d): %v, want %v", c.s, c.depth, err, want)
		}
		strict, err := parse.Strict([]byte(c.s), c.depth)
		if strict != nil || err != want {
			t.Errorf("Strict(%q, %d): %v, want %v", c.s, c.depth, err, want)
		}
	}
}

// reader reads a document all at once, value within value, by the words of the document.
type reader struct {
	b  []byte
	at int
}

// stop is what ends a reading.
type stop struct{ err error }

func (r *reader) fail(e api.Errno, at int) { panic(stop{spot(e, at)}) }

func (r *reader) blanks() {
	for r.at < len(r.b) && strings.IndexByte(" \t\r\n", r.b[r.at]) >= 0 {
		r.at++
	}
}

// next is the byte that stands here; the end ends the reading.
func (r *reader) next() byte {
	if r.at == len(r.b) {
		r.fail(api.ErrEnd, r.at)
	}
	return r.b[r.at]
}

func (r *reader) document(depth int) (v api.Value, err error) {
	defer func() {
		if p := recover(); p != nil {
			v, err = nil, p.(stop).err
		}
	}()
	r.blanks()
	v = r.value(depth)
	if r.blanks(); r.at < len(r.b) {
		r.fail(api.ErrSyntax, r.at)
	}
	return v, nil
}

func (r *reader) value(depth int) api.Value {
	c := r.next()
	if strings.IndexByte(`{["-0123456789ntf`, c) < 0 {
		r.fail(api.ErrSyntax, r.at)
	}
	if depth == 0 {
		r.fail(api.ErrDepth, r.at)
	}
	switch c {
	case '{':
		return r.object(depth)
	case '[':
		return r.list(depth)
	case '"':
		return api.Text(r.text())
	case 'n', 't', 'f':
		word := map[byte]string{'n': "null", 't': "true", 'f': "false"}[c]
		for i := range word {
			if r.next() != word[i] {
				r.fail(api.ErrSyntax, r.at)
			}
			r.at++
		}
		if c == 'n' {
			return api.Null{}
		}
		return api.Flag(c == 't')
	}
	return r.number()
}

func (r *reader) list(depth int) api.Value {
	l := api.List{}
	r.at++
	if r.blanks(); r.next() == ']' {
		r.at++
		return l
	}
	for {
		r.blanks()
		l = append(l, r.value(depth-1))
		if r.more(']') {
			return l
		}
	}
}

// more takes a comma, or the end, of which it tells whether it is that.
func (r *reader) more(end byte) bool {
	r.blanks()
	c := r.next()
	if c != ',' && c != end {
		r.fail(api.ErrSyntax, r.at)
	}
	r.at++
	return c == end
}

func (r *reader) object(depth int) api.Value {
	o := api.Object{}
	r.at++
	if r.blanks(); r.next() == '}' {
		r.at++
		return o
	}
	for {
		r.blanks()
		from := r.at
		if r.next() != '"' {
			r.fail(api.ErrSyntax, r.at)
		}
		key := r.text()
		if slices.ContainsFunc(o, func(m api.Member) bool { return m.Key == key }) {
			r.fail(api.ErrTwice, from)
		}
		r.blanks()
		if r.next() != ':' {
			r.fail(api.ErrSyntax, r.at)
		}
		r.at++
		r.blanks()
		o = append(o, api.Member{Key: key, Value: r.value(depth - 1)})
		if r.more('}') {
			slices.SortFunc(o, func(a, b api.Member) int {
				return slices.Compare(utf16.Encode([]rune(a.Key)), utf16.Encode([]rune(b.Key)))
			})
			return o
		}
	}
}

func (r *reader) digits() {
	if c := r.next(); c < '0' || c > '9' {
		r.fail(api.ErrSyntax, r.at)
	}
	for r.at < len(r.b) && r.b[r.at] >= '0' && r.b[r.at] <= '9' {
		r.at++
	}
}

func (r *reader) is(set string) bool {
	return r.at < len(r.b) && strings.IndexByte(set, r.b[r.at]) >= 0
}

func (r *reader) number() api.Value {
	from := r.at
	if r.is("-") {
		r.at++
	}
	if r.next() == '0' {
		r.at++
	} else {
		r.digits()
	}
	if r.is(".") {
		r.at++
		r.digits()
	}
	if r.is("eE") {
		if r.at++; r.is("+-") {
			r.at++
		}
		r.digits()
	}
	x, err := strconv.ParseFloat(string(r.b[from:r.at]), 64)
	if err != nil && math.IsInf(x, 0) {
		r.fail(api.ErrRange, from)
	}
	if x == 0 {
		return api.Number(0)
	}
	return api.Number(x)
}

// text reads a text; what is wrong in it is the lexer's, whose places are tested there.
func (r *reader) text() string {
	var said []byte
	for r.at++; ; {
		switch c := r.next(); {
		case c == '"':
			r.at++
			return string(said)
		case c < 0x20:
			r.fail(api.ErrControl, r.at)
		case c == '\\':
			said = r.escape(said)
		default:
			x, n := utf8.DecodeRune(r.b[r.at:])
			if x == utf8.RuneError && n == 1 {
				r.wrong()
			}
			said = append(said, r.b[r.at:r.at+n]...)
			r.at += n
		}
	}
}

func (r *reader) wrong() {
	for n := 1; r.at+n <= len(r.b); n++ {
		if utf8.FullRune(r.b[r.at : r.at+n]) {
			r.fail(api.ErrChar, r.at+n-1)
		}
	}
	r.fail(api.ErrEnd, len(r.b))
}

func (r *reader) escape(said []byte) []byte {
	r.at++
	if i := strings.IndexByte(`"\/bfnrt`, r.next()); i >= 0 {
		r.at++
		return append(said, "\"\\/\b\f\n\r\t"[i])
	}
	if r.next() != 'u' {
		r.fail(api.ErrEscape, r.at)
	}
	r.at++
	high := r.four(false)
	if high < 0xD800 || high > 0xDBFF {
		return utf8.AppendRune(said, high)
	}
	for _, c := range []byte(`\u`) {
		if r.next() != c {
			r.fail(api.ErrLone, r.at)
		}
		r.at++
	}
	return utf8.AppendRune(said, utf16.DecodeRune(high, r.four(true)))
}

func (r *reader) four(low bool) rune {
	n := rune(0)
	for i := range 4 {
		d := strings.IndexByte("0123456789abcdef", r.next()|0x20)
		if r.next() < '0' || r.next() > '9' && r.next() < 'A' {
			d = -1
		}
		half := i == 1 && n == 0xD && d >= 0xC
		if low && (d < 0 || i == 0 && d != 0xD || i == 1 && !half) || !low && half {
			r.fail(api.ErrLone, r.at)
		}
		if d < 0 {
			r.fail(api.ErrEscape, r.at)
		}
		n = n<<4 | rune(d)
		r.at++
	}
	return n
}

// random is bytes that are nearly a document.
func random(r *rand.Rand) []byte {
	if r.Intn(3) == 0 {
		pieces := []string{"{", "}", "[", "]", ":", ",", " ", "\n", "null", "true", "fals", "0", "-1", "1e5", "1e999", `"a"`, `"b":`, `"a":`, `"\u0061"`, `"`, "x", "\xFF", "\x00", "1.", "-", `"\ud83d`, `\ude00"`, "é"}
		var b []byte
		for range r.Intn(9) {
			b = append(b, pieces[r.Intn(len(pieces))]...)
		}
		return b
	}
	b := document(r, 5)
	for range r.Intn(3) { // a byte changed, taken away, put in
		i := r.Intn(len(b) + 1)
		switch k := r.Intn(4); {
		case k == 0 && i < len(b):
			b = slices.Delete(b, i, i+1)
		case k == 1 && i < len(b):
			b[i] = `{}[]:," 01ae.-\u`[r.Intn(16)]
		case k == 2:
			b = slices.Insert(b, i, `{}[]:," 01ae.-\u`[r.Intn(16)])
		default:
			b = b[:i]
		}
	}
	return b
}

// document is a document, laid out in whatever way.
func document(r *rand.Rand, depth int) []byte {
	blank := func() string { return []string{"", "", "", " ", "\n\t", "\r"}[r.Intn(6)] }
	var b strings.Builder
	b.WriteString(blank())
	k := r.Intn(8)
	if depth == 1 {
		k = r.Intn(6)
	}
	switch k {
	case 0:
		b.WriteString([]string{"null", "true", "false"}[r.Intn(3)])
	case 1, 2:
		b.WriteString([]string{"0", "-0", "1", "-1.5", "1e2", "1E-2", "0.0001", "123456789012345678901", "1.7976931348623157e308", "5e-324"}[r.Intn(10)])
	case 3, 4, 5:
		b.WriteString(quoted(r))
	case 6:
		b.WriteByte('[')
		for i := range r.Intn(4) {
			if i > 0 {
				b.WriteByte(',')
			}
			b.Write(document(r, depth-1))
		}
		b.WriteString(blank() + "]")
	case 7:
		b.WriteByte('{')
		for i := range r.Intn(4) {
			if i > 0 {
				b.WriteByte(',')
			}
			b.WriteString(blank() + quoted(r) + blank() + ":")
			b.Write(document(r, depth-1))
		}
		b.WriteString(blank() + "}")
	}
	b.WriteString(blank())
	return []byte(b.String())
}

func quoted(r *rand.Rand) string {
	s := `"`
	for range r.Intn(4) {
		s += []string{"a", "b", "é", "😀", `\n`, `\"`, `\\`, `\u0061`, `\u00e9`, `\ud83d\ude00`, "/", `\/`, "\x7F", `\u0000`}[r.Intn(14)]
	}
	return s + `"`
}

func TestReadAgainstReader(t *testing.T) {
	r := rand.New(rand.NewSource(1))
	went := 0
	for range 60000 {
		b := random(r)
		depth := 1 + r.Intn(5)
		ref := reader{b: b}
		want, wrong := ref.document(depth)
		tree, err := parse.Read(b, depth)
		if err != wrong || !reflect.DeepEqual(tree.Value(), want) {
			t.Fatalf("Read(%q, %d): %#v, %v, want %#v, %v", b, depth, tree.Value(), err, want, wrong)
		}
		if err == nil {
			went++
			if !json.Valid(b) {
				t.Fatalf("Read(%q) goes", b)
			}
			checkForm(t, b, tree, depth)
		}
		checkPieces(t, r, b, depth, tree, err)
		checkDepths(t, b, depth, tree, err)
	}
	if went < 10000 {
		t.Errorf("only %d documents", went)
	}
}

// checkForm: the canonical bytes are a document of the same value, their own form, and short.
func checkForm(t *testing.T, b []byte, tree *node.Tree, depth int) {
	t.Helper()
	form, _ := canon.Bytes(tree)
	again, err := parse.Strict(form, depth)
	if err != nil || !again.Same(tree) || len(form) > 6*len(b)+32 {
		t.Fatalf("Strict(%s): %v", form, err)
	}
	_, err = parse.Strict(b, depth)
	at := 0
	for at < min(len(b), len(form)) && b[at] == form[at] {
		at++
	}
	if want := spot(api.ErrPlain, at); bytes.Equal(b, form) && err != nil || !bytes.Equal(b, form) && err != want {
		t.Fatalf("Strict(%q): %v", b, err)
	}
}

// checkPieces feeds b in pieces.
func checkPieces(t *testing.T, r *rand.Rand, b []byte, depth int, tree *node.Tree, want error) {
	t.Helper()
	p, err := parse.New(depth)
	if err != nil {
		t.Fatal(err)
	}
	fed := 0
	for fed < len(b) && err == nil {
		n := 1 + r.Intn(min(4, len(b)-fed))
		if err = p.Feed(b[fed : fed+n]); err == nil {
			fed += n
			if p.Place() != fed || p.Err() != nil {
				t.Fatalf("%q behind %d: Place %d", b, fed, p.Place())
			}
		}
	}
	got, last := p.Finish()
	if last != want || err != nil && err != want || !reflect.DeepEqual(got.Value(), tree.Value()) || p.Err() != want || p.Open() != 0 {
		t.Fatalf("%q in pieces: %v, %v, want %v", b, err, last, want)
	}
	if err != nil { // found with the byte in this piece, and with none ahead
		place := p.Place()
		if place < fed || p.Feed(b) != want || p.Feed(nil) != want || p.Place() != place {
			t.Fatalf("%q: Place %d behind an error, want %d", b, place, fed)
		}
		q, _ := parse.New(depth)
		if q.Feed(b[:place]) != nil || q.Feed(b[place:place+1]) != want {
			t.Fatalf("%q: the error is not found at %d", b, place)
		}
		return
	}
	if p.Place() != len(b) {
		t.Fatalf("%q: Place %d", b, p.Place())
	}
	if want == nil {
		want = api.ErrDone
	}
	if t2, err := p.Finish(); t2 != nil || err != want || p.Feed([]byte("1")) != want || p.Feed(nil) != want || p.Place() != len(b) {
		t.Fatalf("%q: behind Finish: %v", b, err)
	}
}

// checkDepths: P12.8.
func checkDepths(t *testing.T, b []byte, depth int, tree *node.Tree, err error) {
	t.Helper()
	deeper, err2 := parse.Read(b, depth+1)
	s, ok := err.(api.Spot)
	if !ok || s.Err != api.ErrDepth {
		if err != err2 || !reflect.DeepEqual(tree.Value(), deeper.Value()) {
			t.Fatalf("Read(%q) at %d and one more: %v, %v", b, depth, err, err2)
		}
		return
	}
	most, err := parse.Read(b, api.MaxDepth)
	if err == s || err != nil && most != nil {
		t.Fatalf("Read(%q) at the greatest depth: %v", b, err)
	}
}

func TestParserExamples(t *testing.T) {
	p, _ := parse.New(3)
	bad := spot(api.ErrSyntax, 4)
	if p.Feed([]byte("[1")) != nil || p.Open() != 1 || p.Place() != 2 || p.Feed([]byte("2,")) != nil || p.Feed([]byte("x")) != bad || p.Feed([]byte("]")) != bad {
		t.Error("Feed")
	}
	if tree, err := p.Finish(); tree != nil || err != bad || p.Err() != bad || p.Place() != 4 || p.Open() != 0 {
		t.Errorf("Finish: %v", err)
	}
	p, _ = parse.New(3)
	p.Feed([]byte("1"))
	tree, err := p.Finish()
	if x, _ := tree.Root().Number(); x != 1 || err != nil {
		t.Errorf("Finish: %v", err)
	}
	if tree, err := p.Finish(); tree != nil || err != api.ErrDone || p.Feed([]byte("1")) != api.ErrDone || p.Err() != nil {
		t.Errorf("Finish again: %v", err)
	}
	for s, open := range map[string]int{"": 0, "[": 1, "[[": 2, `{"a":[`: 2, "[[]": 1, "[]": 0, `{"a"`: 1, `{"a":1}`: 0} {
		p, _ := parse.New(9)
		if p.Feed([]byte(s)) != nil || p.Open() != open {
			t.Errorf("Open of %q: %d", s, p.Open())
		}
	}
	for _, depth := range []int{0, -1, 513, math.MinInt, math.MaxInt} {
		if p, err := parse.New(depth); p != nil || err != api.ErrArg {
			t.Errorf("New(%d): %v", depth, err)
		}
	}
	var none *parse.Parser
	if tree, err := none.Finish(); tree != nil || err != api.ErrNil || none.Feed(nil) != api.ErrNil || none.Err() != api.ErrNil || none.Place() != 0 || none.Open() != 0 {
		t.Errorf("calls of nil: %v", err)
	}
}

func TestStrictExamples(t *testing.T) {
	for s, want := range map[string]error{`{"a":1}`: nil, `{"a": 1}`: spot(api.ErrPlain, 5), "1 ": spot(api.ErrPlain, 1), "1.0": spot(api.ErrPlain, 1), " 1": spot(api.ErrPlain, 0), "-0": spot(api.ErrPlain, 0), `{"b":1,"a":2}`: spot(api.ErrPlain, 2), `"\u0061"`: spot(api.ErrPlain, 1), `"\/"`: spot(api.ErrPlain, 1), "1e2": spot(api.ErrPlain, 1), "1E+21": spot(api.ErrPlain, 1), "1e+21": nil, "[]": nil} {
		tree, err := parse.Strict([]byte(s), 3)
		if err != want || (tree == nil) != (err != nil) {
			t.Errorf("Strict(%s): %v, want %v", s, err, want)
		}
	}
}

// TestLayout: P12.9, and that the value's types are those of the document.
func TestLayout(t *testing.T) {
	r := rand.New(rand.NewSource(2))
	for range 5000 {
		b := document(r, 5)
		tree, err := parse.Read(b, 5)
		if err != nil {
			if !errors.Is(err, api.ErrTwice) {
				t.Fatalf("Read(%q): %v", b, err)
			}
			continue
		}
		form, _ := canon.Bytes(tree)
		other, err := parse.Read(spread(r, form), 5)
		if err != nil || !other.Same(tree) {
			t.Fatalf("Read(%q): %v", spread(r, form), err)
		}
		ref := reader{b: b}
		if want, _ := ref.document(5); !reflect.DeepEqual(other.Value(), want) {
			t.Fatalf("Read(%q): %#v", b, other.Value())
		}
	}
}

// spread puts blanks between the tokens of a form, and escapes in the place of characters.
func spread(r *rand.Rand, form []byte) []byte {
	var out []byte
	text, left := false, 0 // left are the bytes of an escape that are to come
	for i, c := range string(form) {
		switch {
		case left > 0:
			left--
		case text && c == '\\':
			if left = 1; form[i+1] == 'u' {
				left = 5
			}
		case c == '"':
			text = !text
		case text && r.Intn(3) == 0:
			for _, u := range utf16.Encode([]rune{c}) {
				h := strconv.FormatUint(uint64(u)|0x10000, 16)[1:]
				if r.Intn(2) == 0 {
					h = strings.ToUpper(h)
				}
				out = append(out, `\u`+h...)
			}
			continue
		case !text && strings.ContainsRune("{}[]:,", c):
			out = append(out, ' ', byte(c), '\t', '\n')
			continue
		}
		out = utf8.AppendRune(out, c)
	}
	return out
}

func TestLimits(t *testing.T) {
	check := func(what string, b []byte, depth int, want error) {
		t.Helper()
		if tree, err := parse.Read(b, depth); err != want || (tree == nil) != (want != nil) {
			t.Errorf("%s: %v, want %v", what, err, want)
		}
	}
	deep := []byte(strings.Repeat("[", 512) + strings.Repeat("]", 512))
	check("as deep as may be", deep, 512, nil)
	check("one less", deep, 511, spot(api.ErrDepth, 511))
	check("too deep", []byte(strings.Repeat("[", 513)), 512, spot(api.ErrDepth, 512))
	check("very deep", bytes.Repeat([]byte("["), 1<<20), 512, spot(api.ErrDepth, 512))
	many := "[" + strings.Repeat("1,", api.MaxNodes-2)
	check("as many as may be", []byte(many+"1]"), 2, nil)
	for _, rest := range []string{"1,1]", "1,1", "1,{", "1,\"", "1,t"} {
		check("too many", []byte(many+rest), 2, spot(api.ErrLong, len(many)+2))
	}
	check("too many, too deep", []byte(many[:len(many)-2]+"1,[1"), 2, spot(api.ErrDepth, len(many)+1))
	check("too many, wrong", []byte(many+"1,x"), 2, spot(api.ErrSyntax, len(many)+2))
	check("too many, wrong", []byte(many+"1,]"), 2, spot(api.ErrSyntax, len(many)+2))
	long := strings.Repeat("x", api.MaxBytes)
	check("as long as may be", []byte(`"`+long+`"`), 1, nil)
	check("too long", []byte(`"`+long+`x"`), 1, spot(api.ErrLong, 0))
	check("too long, cut", []byte(`"`+long+`x`), 1, spot(api.ErrEnd, api.MaxBytes+2))
	check("too long together", []byte(`["`+long+`","","x"]`), 2, spot(api.ErrLong, api.MaxBytes+7))
	check("too long key", []byte(`{"`+long+`":1,"x":1}`), 2, spot(api.ErrLong, api.MaxBytes+6))
	check("too long, twice", []byte(`{"x":1,"`+long[1:]+`":1,"x":1}`), 2, spot(api.ErrTwice, api.MaxBytes+12-1))
	check("escapes", []byte(`"`+strings.Repeat(`\u0061`, api.MaxBytes)+`"`), 1, nil)
	check("keys and texts", []byte(`{"a":"`+long[2:]+`","b":""}`), 2, nil)
}

func TestMaxInput(t *testing.T) {
	b := bytes.Repeat([]byte(" "), api.MaxInput+1)
	b[api.MaxInput-1] = '1'
	if tree, err := parse.Read(b[:api.MaxInput], 1); tree == nil || err != nil {
		t.Errorf("as long as may be: %v", err)
	}
	p, _ := parse.New(1)
	if err := p.Feed(b); err != spot(api.ErrLong, api.MaxInput) || p.Place() != api.MaxInput {
		t.Errorf("one too long: %v, %d", err, p.Place())
	}
	b[api.MaxInput] = 'x'
	copy(b[api.MaxInput-5:], "1e999")
	if _, err := parse.Read(b, 1); err != spot(api.ErrLong, api.MaxInput) {
		t.Errorf("too long, too great, wrong: %v", err)
	}
	for i := range b {
		b[i] = 'a'
	}
	b[0] = '"'
	if _, err := parse.Read(b, 1); err != spot(api.ErrLong, api.MaxInput) {
		t.Errorf("a text too long: %v", err)
	}
}

func TestMemory(t *testing.T) {
	b := []byte(`{"key":"text"}`)
	p, _ := parse.New(2)
	p.Feed(b[:9])
	for i := range b[:9] {
		b[i] = 'x'
	}
	p.Feed(b[9:])
	for i := range b {
		b[i] = 'x'
	}
	tree, err := p.Finish()
	if form, _ := canon.Bytes(tree); err != nil || string(form) != `{"key":"text"}` {
		t.Errorf("what was fed is shared: %s, %v", form, err)
	}
}
