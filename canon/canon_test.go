package canon_test

import (
	"bytes"
	"encoding/json"
	"math"
	"math/rand"
	"slices"
	"strconv"
	"strings"
	"testing"
	"unicode/utf8"

	"affidavit/api"
	"affidavit/canon"
	"affidavit/node"
)

// maker makes trees without asking whether it went well.
type maker struct {
	*node.Maker
	t *testing.T
}

func (m maker) null()              { m.must(m.Null()) }
func (m maker) number(x float64)   { m.must(m.Number(x)) }
func (m maker) text(s string)      { m.must(m.Text(s)) }
func (m maker) list(n int)         { m.must(m.List(n)) }
func (m maker) object(k ...string) { m.must(m.Object(k...)) }
func (m maker) must(err error) {
	m.t.Helper()
	if err != nil {
		m.t.Fatal(err)
	}
}

func tree(t *testing.T, f func(m maker)) *node.Tree {
	t.Helper()
	m := maker{node.New(), t}
	f(m)
	tree, err := m.Tree()
	if err != nil {
		t.Fatal(err)
	}
	return tree
}

func TestExamples(t *testing.T) {
	for want, f := range map[string]func(m maker){
		"null": func(m maker) { m.null() }, "true": func(m maker) { m.must(m.Flag(true)) }, "false": func(m maker) { m.must(m.Flag(false)) }, "4.5": func(m maker) { m.number(4.5) }, `"a"`: func(m maker) { m.text("a") }, "0": func(m maker) { m.number(math.Copysign(0, -1)) }, "1e+21": func(m maker) { m.number(1e21) }, "[]": func(m maker) { m.list(0) }, "{}": func(m maker) { m.object() }, `""`: func(m maker) { m.text("") },
		`[1,"x",[]]`: func(m maker) { m.number(1); m.text("x"); m.list(0); m.list(3) },
		"{\"a\":null,\"b\":1,\"\U0001F600\":2,\"\uFB33\":3}": func(m maker) {
			m.number(1)
			m.null()
			m.number(2)
			m.number(3)
			m.object("b", "a", "\U0001F600", "\uFB33")
		},
		`{"":{"\n":[[]]},"é/":{}}`: func(m maker) { m.list(0); m.list(1); m.object("\n"); m.object(); m.object("", "é/") },
	} {
		tree := tree(t, f)
		b, err := canon.Bytes(tree)
		if string(b) != want || err != nil {
			t.Errorf("Bytes: %s, %v, want %s", b, err, want)
		}
		part, err := canon.Part(tree.Root())
		if part != want || err != nil || canon.Size(tree) != len(want) {
			t.Errorf("Part: %s, %v, Size %d, want %s", part, err, canon.Size(tree), want)
		}
	}
}

func TestNil(t *testing.T) {
	b, err := canon.Bytes(nil)
	part, err2 := canon.Part(node.Ref{})
	if b != nil || err != api.ErrNil || part != "" || err2 != api.ErrNil || canon.Size(nil) != 0 {
		t.Errorf("of nil: %s, %v, %s, %v", b, err, part, err2)
	}
	for range canon.Each(nil) {
		t.Error("a piece of nil")
	}
}

func TestEach(t *testing.T) {
	tree := tree(t, func(m maker) { m.number(1); m.text("x"); m.list(2); m.object(); m.object("a", "b") })
	want := []string{"{", `"a"`, ":", "[", "1", ",", `"x"`, "]", ",", `"b"`, ":", "{", "}", "}"}
	each := canon.Each(tree)
	for n := range len(want) + 2 { // left early behind n pieces, and gone over again
		var got []string
		for piece := range each {
			if len(got) == n {
				break
			}
			got = append(got, piece)
		}
		if !slices.Equal(got, want[:min(n, len(want))]) {
			t.Errorf("Each: %q", got)
		}
	}
}

// quoted is the form of a text by the words of the document.
func quoted(s string) string {
	var b strings.Builder
	b.WriteByte('"')
	for _, r := range s {
		switch i := strings.IndexRune("\"\\\b\t\n\f\r", r); {
		case i >= 0:
			b.WriteString(`\` + `"\btnfr`[i:i+1])
		case r < 32:
			b.WriteString(`\u00` + string("01"[r/16]) + strconv.FormatInt(int64(r%16), 16))
		default:
			b.WriteRune(r)
		}
	}
	return b.String() + `"`
}

func TestQuote(t *testing.T) {
	if s, err := canon.Quote("\"\\/\b\x1f\x7fé"); s != "\"\\\"\\\\/\\b\\u001f\x7fé\"" || err != nil {
		t.Errorf("Quote: %s, %v", s, err)
	}
	all := ""
	for r := range rune(0x300) {
		all += string(r)
	}
	all += "\u2028\u2029\uFFFD\uFEFF<>&'😀\U0010FFFF"
	if s, err := canon.Quote(all); s != quoted(all) || err != nil {
		t.Errorf("Quote of all: %s, %v", s, err)
	}
	for s, at := range map[string]int{"a\xFF": 1, "\xC0\x80": 0, "é\xE2\x82": 4, "\xED\xA0\x80": 1, "\"\n\x80": 2} {
		if q, err := canon.Quote(s); q != "" || err != (api.Spot{Err: api.ErrText, At: at}) {
			t.Errorf("Quote(%q): %s, %v", s, q, err)
		}
	}
	r := rand.New(rand.NewSource(1))
	for range 5000 {
		s := word(r)
		q, err := canon.Quote(s)
		if err != nil || q != quoted(s) || len(q) < len(s)+2 || len(q) > 6*len(s)+2 {
			t.Fatalf("Quote(%q): %s, %v", s, q, err)
		}
		var back string
		if json.Unmarshal([]byte(q), &back) != nil || back != s {
			t.Fatalf("Quote(%q) is read as %q", s, back)
		}
	}
}

// TestQuotesPart: P11.6.
func TestQuotesPart(t *testing.T) {
	r := rand.New(rand.NewSource(2))
	for range 5000 {
		s := word(r)
		more := s + word(r)
		a, _ := canon.Quote(s)
		b, _ := canon.Quote(more)
		if (a == b) != (s == more) || s != more && strings.HasPrefix(b, a) && a[:len(a)-1] != b[:len(a)-1] {
			t.Fatalf("Quotes of %q and %q", s, more)
		}
		if s != more && !strings.HasPrefix(b, a[:len(a)-1]) {
			t.Fatalf("Quotes of %q and %q part too early", s, more)
		}
	}
}

func word(r *rand.Rand) string {
	var s strings.Builder
	for range r.Intn(6) {
		s.WriteRune([]rune{'a', 'b', '"', '\\', '/', '\b', '\t', '\n', '\f', '\r', 0, 1, 0xB, 0x1F, 0x7F, 'é', '€', '😀', 0x2028}[r.Intn(19)])
	}
	return s.String()
}

func TestNumber(t *testing.T) {
	for x, want := range map[float64]string{1e21: "1e+21", math.Copysign(0, -1): "0", 0.1: "0.1", -1.5: "-1.5", 1e-7: "1e-7", 123456789: "123456789"} {
		if s, err := canon.Number(x); s != want || err != nil {
			t.Errorf("Number(%v): %s, %v", x, s, err)
		}
	}
	for _, x := range []float64{math.Inf(1), math.Inf(-1), math.NaN()} {
		if s, err := canon.Number(x); s != "" || err != api.ErrInfinite {
			t.Errorf("Number(%v): %s, %v", x, s, err)
		}
	}
}

// random puts a random value.
func random(r *rand.Rand, m maker, depth int) {
	k := r.Intn(7)
	if depth == 1 {
		k = r.Intn(5)
	}
	switch k {
	case 0:
		m.null()
	case 1:
		m.must(m.Flag(r.Intn(2) == 0))
	case 2:
		m.number(float64(r.Intn(2000)-1000) / 8)
	case 3, 4:
		m.text(word(r))
	case 5:
		n := r.Intn(4)
		for range n {
			random(r, m, depth-1)
		}
		m.list(n)
	case 6:
		var keys []string
		for range r.Intn(4) {
			if k := word(r); !slices.Contains(keys, k) {
				random(r, m, depth-1)
				keys = append(keys, k)
			}
		}
		m.object(keys...)
	}
}

// form is a value's one form, made of its parts'.
func form(t *testing.T, r node.Ref) string {
	t.Helper()
	var s string
	switch r.Sort() {
	case api.SortList:
		for _, v := range r.All() {
			s += "," + form(t, v)
		}
		s = "[" + strings.TrimPrefix(s, ",") + "]"
	case api.SortObject:
		for k, v := range r.All() {
			s += "," + quoted(k) + ":" + form(t, v)
		}
		s = "{" + strings.TrimPrefix(s, ",") + "}"
	case api.SortText:
		x, _ := r.Text()
		s = quoted(x)
	case api.SortNumber:
		x, _ := r.Number()
		s = strconv.FormatFloat(x, 'f', -1, 64)
	default:
		f, _ := r.Flag()
		s = map[api.Sort]string{api.SortNull: "null", api.SortFlag: strconv.FormatBool(f)}[r.Sort()]
	}
	if part, err := canon.Part(r); part != s || err != nil {
		t.Fatalf("Part: %s, %v, want %s", part, err, s)
	}
	return s
}

func TestByParts(t *testing.T) {
	r := rand.New(rand.NewSource(3))
	forms := map[string]*node.Tree{}
	for range 3000 {
		v := tree(t, func(m maker) { random(r, m, 4) })
		b, err := canon.Bytes(v)
		if err != nil || string(b) != form(t, v.Root()) || canon.Size(v) != len(b) || !utf8.Valid(b) || !json.Valid(b) {
			t.Fatalf("Bytes: %s, %v", b, err)
		}
		pieces := ""
		for p := range canon.Each(v) {
			pieces += p
		}
		if pieces != string(b) {
			t.Fatalf("Each: %s, want %s", pieces, b)
		}
		var compact bytes.Buffer
		if json.Compact(&compact, b); compact.Len() != len(b) {
			t.Fatalf("a blank in %s", b)
		}
		if u := forms[string(b)]; u != nil && !u.Same(v) {
			t.Fatalf("two values have the form %s", b)
		}
		forms[string(b)] = v
	}
	seen := map[string]bool{}
	var all []*node.Tree
	for b, v := range forms {
		if len(all) < 200 && !seen[b] {
			seen[b] = true
			all = append(all, v)
		}
	}
	for i, v := range all {
		for k, u := range all {
			if (i == k) != v.Same(u) {
				t.Fatal("one value has two forms")
			}
		}
	}
}

func TestGreatest(t *testing.T) {
	v := tree(t, func(m maker) {
		m.text(strings.Repeat("\x01", api.MaxBytes))
		for range api.MaxNodes - 2 {
			m.number(-1.2345678901234567e-100)
		}
		m.list(api.MaxNodes - 1)
	})
	if n := canon.Size(v); n > api.MaxInput || n < 6*api.MaxBytes {
		t.Errorf("Size: %d", n)
	}
}

func TestMemory(t *testing.T) {
	v := tree(t, func(m maker) { m.text("abc"); m.list(1) })
	a, _ := canon.Bytes(v)
	b, _ := canon.Bytes(v)
	copy(a[:cap(a)], strings.Repeat("x", cap(a)))
	if string(b) != `["abc"]` {
		t.Errorf("Bytes are shared: %s", b)
	}
}
