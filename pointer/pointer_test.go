package pointer_test

import (
	"math"
	"math/rand"
	"reflect"
	"slices"
	"strconv"
	"strings"
	"testing"
	"unicode/utf8"

	"affidavit/api"
	"affidavit/node"
	"affidavit/parse"
	"affidavit/pointer"
)

const example = `{"a": [1, {"b/c": null}], "": true, "~1": "x"}`

func read(t *testing.T, s string) *node.Tree {
	t.Helper()
	tree, err := parse.Read([]byte(s), api.MaxDepth)
	if err != nil {
		t.Fatalf("%s: %v", s, err)
	}
	return tree
}

func spot(e api.Errno, at int) error { return api.Spot{Err: e, At: at} }

func TestParse(t *testing.T) {
	for s, want := range map[string][]string{"": nil, "/": {""}, "/a/0": {"a", "0"}, "/~01/~1": {"~1", "/"}, "//": {"", ""}, "/é/😀": {"é", "😀"}, "/~0~1~0": {"~/~"}, "/ ": {" "}, "/a~1b/c~0d": {"a/b", "c~d"}} {
		tokens, err := pointer.Parse(s)
		if err != nil || !slices.Equal(tokens, want) {
			t.Errorf("Parse(%q): %q, %v", s, tokens, err)
		}
		if back, err := pointer.Print(want); back != s || err != nil {
			t.Errorf("Print(%q): %q, %v", want, back, err)
		}
	}
	most := strings.Repeat("/", api.MaxSteps)
	for s, want := range map[string]error{
		"a": spot(api.ErrPointer, 0), "/~2": spot(api.ErrPointer, 2), "/a~": spot(api.ErrPointer, 3), "/\xFF": spot(api.ErrText, 1), "~0": spot(api.ErrPointer, 0), "/~": spot(api.ErrPointer, 2), "/~~": spot(api.ErrPointer, 2), "/~/": spot(api.ErrPointer, 2), "a\xFF": spot(api.ErrText, 1), "/~\xC3\xA9": spot(api.ErrPointer, 2), "/a\xE2\x82": spot(api.ErrText, 4), "\xFF": spot(api.ErrText, 0), " /": spot(api.ErrPointer, 0), "#/a": spot(api.ErrPointer, 0), "/a/b~x": spot(api.ErrPointer, 5),
		most + "/": api.ErrLong, most + "/\xFF": spot(api.ErrText, api.MaxSteps+1), most + "/~": spot(api.ErrPointer, api.MaxSteps+2),
	} {
		tokens, err := pointer.Parse(s)
		if tokens != nil || err != want {
			t.Errorf("Parse(%.20q): %v, want %v", s, err, want)
		}
	}
	if tokens, err := pointer.Parse(most); len(tokens) != api.MaxSteps || err != nil {
		t.Errorf("as many tokens as may be: %d, %v", len(tokens), err)
	}
}

func TestPrint(t *testing.T) {
	if s, err := pointer.Print(nil); s != "" || err != nil {
		t.Errorf("Print of nothing: %q, %v", s, err)
	}
	if s, err := pointer.Print([]string{"a/b", "~"}); s != "/a~1b/~0" || err != nil {
		t.Errorf("Print: %q, %v", s, err)
	}
	if s, err := pointer.Print([]string{"a", "\xFF", "\xFE"}); s != "" || err != spot(api.ErrText, 1) {
		t.Errorf("Print of no right text: %q, %v", s, err)
	}
	if s, err := pointer.Print(make([]string, api.MaxSteps)); len(s) != api.MaxSteps || err != nil {
		t.Errorf("Print of many: %v", err)
	}
	if s, err := pointer.Print(append([]string{"\xFF"}, make([]string, api.MaxSteps)...)); s != "" || err != api.ErrLong {
		t.Errorf("Print of too many: %v", err)
	}
}

func TestThereAndBack(t *testing.T) {
	r := rand.New(rand.NewSource(1))
	for range 5000 {
		var tokens []string
		for range r.Intn(4) {
			s := ""
			for range r.Intn(5) {
				s += []string{"~", "/", "0", "1", "a", "é", "~0", "~1"}[r.Intn(8)]
			}
			tokens = append(tokens, s)
		}
		s, err := pointer.Print(tokens)
		back, err2 := pointer.Parse(s)
		if err != nil || err2 != nil || !slices.Equal(back, tokens) {
			t.Fatalf("Parse of Print(%q): %q, %v, %v", tokens, back, err, err2)
		}
		checkUpDown(t, s, tokens)
		raw := ""
		for range r.Intn(6) {
			raw += []string{"/", "~", "0", "1", "a", "\xFF"}[r.Intn(6)]
		}
		tokens, err = pointer.Parse(raw)
		if err == nil {
			if s, _ := pointer.Print(tokens); s != raw {
				t.Fatalf("Print of Parse(%q): %q", raw, s)
			}
		} else if err != wrong(raw) {
			t.Fatalf("Parse(%q): %v, want %v", raw, err, wrong(raw))
		}
	}
}

// wrong is what is wrong with a text that is no pointer.
func wrong(s string) error {
	for i := range len(s) {
		if s[i] == 0xFF {
			return spot(api.ErrText, i)
		}
	}
	if s[0] != '/' {
		return spot(api.ErrPointer, 0)
	}
	for i := range len(s) {
		if s[i] == '~' && (i+1 == len(s) || !strings.Contains("01", s[i+1:i+2])) {
			return spot(api.ErrPointer, i+1)
		}
	}
	return nil
}

func checkUpDown(t *testing.T, s string, tokens []string) {
	t.Helper()
	up, last, err := pointer.Up(s)
	if len(tokens) == 0 {
		if up != "" || last != "" || err != api.ErrNone {
			t.Fatalf("Up(%q): %q, %q, %v", s, up, last, err)
		}
		return
	}
	outer, _ := pointer.Print(tokens[:len(tokens)-1])
	if up != outer || last != tokens[len(tokens)-1] || err != nil {
		t.Fatalf("Up(%q): %q, %q, %v", s, up, last, err)
	}
	if down, err := pointer.Down(up, last); down != s || err != nil {
		t.Fatalf("Down(%q, %q): %q, %v", up, last, down, err)
	}
	if in, err := pointer.Within(up, s); !in || err != nil {
		t.Fatalf("Within(%q, %q): %v", up, s, err)
	}
	if in, err := pointer.Within(s, up); in || err != nil {
		t.Fatalf("Within(%q, %q): %v", s, up, err)
	}
}

func TestIndex(t *testing.T) {
	for _, c := range []struct {
		token string
		n     int
		want  int
		ok    bool
	}{
		{"0", 1, 0, true}, {"00", 9, 0, false}, {"10", 10, 0, false}, {"-", 3, 0, false}, {"7", -1, 0, false}, {"9", 10, 9, true}, {"10", 11, 10, true}, {"01", 9, 0, false}, {"", 9, 0, false}, {"+1", 9, 0, false}, {"-1", 9, 0, false}, {"1 ", 9, 0, false}, {"1x", 99, 0, false}, {"0", 0, 0, false}, {"1e0", 9, 0, false}, {"٣", 9, 0, false}, {"/", 99, 0, false}, {":", 99, 0, false},
		{"18446744073709551616", 9, 0, false}, {"18446744073709551617", math.MaxInt, 0, false}, {"9223372036854775806", math.MaxInt, math.MaxInt - 1, true}, {"9223372036854775807", math.MaxInt, 0, false}, {"9223372036854775808", math.MaxInt, 0, false}, {"92233720368547758070", math.MaxInt, 0, false}, {"0", math.MinInt, 0, false}, {strings.Repeat("9", 1000), math.MaxInt, 0, false}, {"99", 100, 99, true}, {"100", 100, 0, false},
	} {
		if i, ok := pointer.Index(c.token, c.n); i != c.want || ok != c.ok {
			t.Errorf("Index(%.30q, %d): %d, %v", c.token, c.n, i, ok)
		}
	}
	for n := range 120 {
		for i := range 130 {
			if k, ok := pointer.Index(strconv.Itoa(i), n); ok != (i < n) || ok && k != i || !ok && k != 0 {
				t.Fatalf("Index(%d, %d): %d, %v", i, n, k, ok)
			}
		}
	}
}

func TestFindAndLook(t *testing.T) {
	tree := read(t, example)
	none := func(p string) error { return api.Trail{Err: api.ErrNone, Pointer: p} }
	for s, c := range map[string]struct {
		want api.Value
		err  error
		look api.Value
	}{
		"/a/1/b~1c": {want: api.Null{}}, "/": {want: api.Flag(true)}, "/~01": {want: api.Text("x")}, "/a/0": {want: api.Number(1)}, "/a/2/x": {err: none("/a"), look: &api.Lost{At: 1}}, "/a/0/x": {err: none("/a/0"), look: &api.Lost{At: 2}}, "/a/-": {err: none("/a"), look: &api.Lost{At: 1}}, "/a/01": {err: none("/a"), look: &api.Lost{At: 1}}, "/b": {err: none(""), look: &api.Lost{At: 0}}, "/a/1/b~1c/0": {err: none("/a/1/b~1c"), look: &api.Lost{At: 3}}, "/~1": {err: none(""), look: &api.Lost{}}, "/a/1/b": {err: none("/a/1"), look: &api.Lost{At: 2}},
		"x": {err: spot(api.ErrPointer, 0), look: (*api.Lost)(nil)}, "/\xFF": {err: spot(api.ErrText, 1), look: (*api.Lost)(nil)}, strings.Repeat("/", api.MaxSteps+1): {err: api.ErrLong, look: (*api.Lost)(nil)}, "/a/": {err: none("/a"), look: &api.Lost{At: 1}},
	} {
		r, err := pointer.Find(tree, s)
		look := pointer.Look(tree, s)
		if err != c.err || !reflect.DeepEqual(r.Value(), c.want) {
			t.Errorf("Find(%.20q): %v, %v", s, r.Value(), err)
		}
		if c.err == nil {
			c.look = c.want
		}
		if !reflect.DeepEqual(look, c.look) || look == nil {
			t.Errorf("Look(%.20q): %#v, want %#v", s, look, c.look)
		}
	}
	if whole := pointer.Look(tree, ""); !reflect.DeepEqual(whole, tree.Value()) {
		t.Errorf("Look at the whole: %#v", whole)
	}
	for _, s := range []string{"x", "", "/\xFF"} {
		r, err := pointer.Find(nil, s)
		if r.Sort() != 0 || err != api.ErrNil || pointer.Look(nil, s) != nil {
			t.Errorf("of no tree: %v", err)
		}
	}
}

// values are those of a value, each with its pointer, by the words of the document.
func values(v api.Value, s string) (pointers []string, l []api.Value) {
	pointers, l = []string{s}, []api.Value{v}
	add := func(token string, v api.Value) {
		p, k := values(v, s+"/"+strings.NewReplacer("~", "~0", "/", "~1").Replace(token))
		pointers, l = append(pointers, p...), append(l, k...)
	}
	switch x := v.(type) {
	case api.List:
		for i, v := range x {
			add(strconv.Itoa(i), v)
		}
	case api.Object:
		for _, m := range x {
			add(m.Key, m.Value)
		}
	}
	return pointers, l
}

func TestAll(t *testing.T) {
	var got []string
	for s := range pointer.All(read(t, example)) {
		got = append(got, s)
	}
	if !slices.Equal(got, []string{"", "/", "/a", "/a/0", "/a/1", "/a/1/b~1c", "/~01"}) {
		t.Errorf("All: %q", got)
	}
	for _, s := range []string{example, "1", "[]", `{"x":{"y":{"z":[[],[[]]]}},"0":[0,1,2,3,4,5,6,7,8,9,10,11]}`, `{"~":{"/":{"~/~0":1}},"é":[{"":{"":null}}]}`} {
		tree := read(t, s)
		pointers, l := values(tree.Value(), "")
		all := pointer.All(tree)
		for n := range len(l) + 1 { // left early, and gone over again
			i := 0
			for p, r := range all {
				if i == n {
					break
				}
				if p != pointers[i] || !reflect.DeepEqual(r.Value(), l[i]) {
					t.Fatalf("All of %s: %q, want %q", s, p, pointers[i])
				}
				i++
			}
			if i != n {
				t.Fatalf("All of %s: %d values", s, i)
			}
		}
		for i, p := range pointers {
			r, err := pointer.Find(tree, p)
			if err != nil || !reflect.DeepEqual(r.Value(), l[i]) || !reflect.DeepEqual(pointer.Look(tree, p), l[i]) {
				t.Fatalf("Find(%s, %q): %v", s, p, err)
			}
		}
		checkOthers(t, tree, pointers)
	}
	for range pointer.All(nil) {
		t.Error("All of nil")
	}
}

// checkOthers: all other pointers are refused, by Find and Look alike.
func checkOthers(t *testing.T, tree *node.Tree, pointers []string) {
	t.Helper()
	r := rand.New(rand.NewSource(2))
	for range 3000 {
		s := pointers[r.Intn(len(pointers))]
		for range 1 + r.Intn(3) {
			s += []string{"/", "0", "1", "x", "~0", "~1", "-", "/00", "é", "/12"}[r.Intn(10)]
		}
		if slices.Contains(pointers, s) {
			continue
		}
		_, err := pointer.Find(tree, s)
		trail, lost := err.(api.Trail)
		look, _ := pointer.Look(tree, s).(*api.Lost)
		if err == nil || (look == nil) == lost {
			t.Fatalf("Find(%q): %v, Look %v", s, err, look)
		}
		if lost {
			tokens, _ := pointer.Parse(trail.Pointer)
			in, _ := pointer.Within(trail.Pointer, s)
			if look.At != len(tokens) || !in || !slices.Contains(pointers, trail.Pointer) {
				t.Fatalf("Find(%q): %v, Look %v", s, err, look)
			}
		}
	}
}

func TestUpDownWithin(t *testing.T) {
	if up, last, err := pointer.Up("/a/0"); up != "/a" || last != "0" || err != nil {
		t.Errorf("Up: %q, %q, %v", up, last, err)
	}
	if up, last, err := pointer.Up("/a~1b/~01"); up != "/a~1b" || last != "~1" || err != nil {
		t.Errorf("Up: %q, %q, %v", up, last, err)
	}
	for s, want := range map[string]error{"": api.ErrNone, "x": spot(api.ErrPointer, 0), "/\xFF": spot(api.ErrText, 1)} {
		if up, last, err := pointer.Up(s); up != "" || last != "" || err != want {
			t.Errorf("Up(%q): %v", s, err)
		}
	}
	most := strings.Repeat("/", api.MaxSteps)
	for _, c := range []struct {
		s, token, want string
		err            error
	}{
		{"/a", "x/y", "/a/x~1y", nil}, {"", "", "/", nil}, {"", "~", "/~0", nil}, {"x", "\xFF", "", spot(api.ErrPointer, 0)}, {"/a", "\xFF", "", api.ErrText}, {most, "a", "", api.ErrLong}, {most, "\xFF", "", api.ErrText}, {most[1:], "", most, nil}, {most + "/", "a", "", api.ErrLong},
	} {
		if s, err := pointer.Down(c.s, c.token); s != c.want || err != c.err {
			t.Errorf("Down(%.20q, %q): %.20q, %v", c.s, c.token, s, err)
		}
	}
	for _, c := range []struct {
		p, q string
		want bool
		err  error
	}{
		{"/a", "/a/0", true, nil}, {"/a", "/ab", false, nil}, {"", "", true, nil}, {"", "/x", true, nil}, {"/x", "", false, nil}, {"/a/b", "/a/c", false, nil}, {"/a", "/a", true, nil}, {"x", "y~", false, spot(api.ErrPointer, 0)}, {"/a", "/~", false, spot(api.ErrPointer, 2)}, {"/\xFF", "x", false, spot(api.ErrText, 1)}, {"/a~1b", "/a~1b/c", true, nil}, {"/", "//", true, nil},
	} {
		if in, err := pointer.Within(c.p, c.q); in != c.want || err != c.err {
			t.Errorf("Within(%q, %q): %v, %v", c.p, c.q, in, err)
		}
	}
}

func TestToldAnew(t *testing.T) {
	tree := read(t, `{"a":[1]}`)
	l := pointer.Look(tree, "/a").(api.List)
	l[0] = api.Text("spoilt")
	if !reflect.DeepEqual(pointer.Look(tree, "/a"), api.List{api.Number(1)}) {
		t.Error("what is told is shared")
	}
	a, b := pointer.Look(tree, "/b").(*api.Lost), pointer.Look(tree, "/b").(*api.Lost)
	if a == b {
		t.Error("one Lost is told twice")
	}
	tokens, _ := pointer.Parse("/a/b")
	tokens[0] = "x"
	if again, _ := pointer.Parse("/a/b"); again[0] != "a" || !utf8.ValidString(again[1]) {
		t.Error("tokens are shared")
	}
}
