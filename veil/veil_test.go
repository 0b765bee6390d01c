package veil_test

import (
	"bytes"
	"crypto/sha256"
	"encoding/base64"
	"math/rand"
	"reflect"
	"slices"
	"strconv"
	"strings"
	"testing"

	"affidavit/api"
	"affidavit/canon"
	"affidavit/node"
	"affidavit/parse"
	"affidavit/pointer"
	"affidavit/veil"
)

func read(t testing.TB, s string) *node.Tree {
	t.Helper()
	tree, err := parse.Read([]byte(s), api.MaxDepth)
	if err != nil {
		t.Fatalf("%.80s: %v", s, err)
	}
	return tree
}

func form(tree *node.Tree) string {
	b, _ := canon.Bytes(tree)
	return string(b)
}

func salt(n int, c byte) []byte { return bytes.Repeat([]byte{c}, n) }

// letters is the digest of an opening, as a veil has it, by the words of the document.
func letters(salt []byte, value string) string {
	d := sha256.Sum256(append(append([]byte("affidavit veil\x00"), byte(len(salt))), string(salt)+value...))
	return base64.RawURLEncoding.EncodeToString(d[:])
}

func veilOf(salt []byte, value string) string { return `{"~":"` + letters(salt, value) + `"}` }

func opening(t testing.TB, salt []byte, value string) api.Opening {
	t.Helper()
	return api.Opening{Salt: salt, Steps: read(t, value).Steps()}
}

var s0, s1 = salt(16, 0), salt(16, 1)

func TestExamples(t *testing.T) {
	tree := read(t, `{"a":1,"b":[2,3]}`)
	first, l, err := veil.Hide(tree, []api.Part{{Pointer: "/b/0", Salt: s0}})
	inner := "[" + veilOf(s0, "2") + ",3]"
	if want := `{"a":1,"b":` + inner + "}"; err != nil || form(first) != want || len(l) != 1 || !same(l[0], opening(t, s0, "2")) {
		t.Fatalf("Hide: %s, %v", form(first), err)
	}
	second, m, err := veil.Hide(first, []api.Part{{Pointer: "/b", Salt: s1}})
	if want := `{"a":1,"b":` + veilOf(s1, inner) + "}"; err != nil || form(second) != want || len(m) != 1 || !same(m[0], opening(t, s1, inner)) {
		t.Fatalf("Hide: %s, %v", form(second), err)
	}
	if hidden := veil.Hidden(second); !slices.Equal(hidden, []string{"/b"}) {
		t.Errorf("Hidden: %q", hidden)
	}
	both := []api.Opening{l[0], m[0]}
	if got, err := veil.Open(second, []api.Opening{m[0], l[0]}); err != nil || !got.Same(tree) {
		t.Errorf("Open: %s, %v", form(got), err)
	}
	if got, err := veil.Open(second, l); got != nil || err != (api.Spot{Err: api.ErrNone}) {
		t.Errorf("Open: %v", err)
	}
	for _, c := range []struct {
		p    string
		l    []api.Opening
		want []int
		err  error
	}{{"/b/0", both, []int{1, 0}, nil}, {"/a", both, nil, nil}, {"/b/7", both, nil, api.Trail{Err: api.ErrNone, Pointer: "/b/7"}}, {"/b/0", nil, nil, api.Trail{Err: api.ErrVeil, Pointer: "/b"}}, {"/b", both, []int{1}, nil}, {"", both, nil, nil}, {"/b/0", m, nil, api.Trail{Err: api.ErrVeil, Pointer: "/b/0"}}, {"/b/1", m, []int{0}, nil}, {"/b/~0", both, nil, api.Trail{Err: api.ErrNone, Pointer: "/b/~0"}}, {"/c/d", both, nil, api.Trail{Err: api.ErrNone, Pointer: "/c"}}, {"/b/0/x", both, nil, api.Trail{Err: api.ErrNone, Pointer: "/b/0/x"}}, {"/a/0", both, nil, api.Trail{Err: api.ErrNone, Pointer: "/a/0"}}, {"b", both, nil, api.ErrArg}, {"/b/0", append([]api.Opening{m[0]}, append(both, l[0])...), []int{0, 1}, nil}} {
		if got, err := veil.Needed(second, c.l, c.p); !slices.Equal(got, c.want) || err != c.err {
			t.Errorf("Needed(%s): %v, %v", c.p, got, err)
		}
	}
}

func same(a, b api.Opening) bool {
	x, err := node.Build(a.Steps)
	y, err2 := node.Build(b.Steps)
	return err == nil && err2 == nil && bytes.Equal(a.Salt, b.Salt) && x.Same(y)
}

func TestHideErrors(t *testing.T) {
	tree := read(t, `{"a":1,"b":[2,3],"v":`+veilOf(s0, "9")+"}")
	part := func(p string) api.Part { return api.Part{Pointer: p, Salt: s0} }
	for i, c := range []struct {
		parts []api.Part
		want  error
	}{
		{[]api.Part{{Pointer: "/a", Salt: salt(15, 0)}}, api.Spot{Err: api.ErrSalt}}, {[]api.Part{{Pointer: "x", Salt: salt(65, 0)}}, api.Spot{Err: api.ErrSalt}}, {[]api.Part{{Pointer: "/a", Salt: salt(64, 0)}}, nil}, {[]api.Part{part("b")}, api.Spot{Err: api.ErrArg}}, {[]api.Part{part("/\xFF")}, api.Spot{Err: api.ErrArg}}, {[]api.Part{part("/~")}, api.Spot{Err: api.ErrArg}}, {[]api.Part{part("/c")}, api.Spot{Err: api.ErrNone}}, {[]api.Part{part("/a"), part("/a")}, api.Spot{Err: api.ErrVeil, At: 1}}, {[]api.Part{part("/b"), part("/b/0")}, api.Spot{Err: api.ErrVeil, At: 1}}, {[]api.Part{part("/b/0"), part("/b")}, nil}, {[]api.Part{part(""), part("/x/y")}, api.Spot{Err: api.ErrVeil, At: 1}}, {[]api.Part{part("/v")}, api.Spot{Err: api.ErrVeil}}, {[]api.Part{part("/v/~0")}, api.Spot{Err: api.ErrVeil}}, {[]api.Part{part("/v/x/y")}, api.Spot{Err: api.ErrVeil}}, {[]api.Part{part("/b/2")}, api.Spot{Err: api.ErrNone}}, {[]api.Part{part("/b/00")}, api.Spot{Err: api.ErrNone}}, {[]api.Part{part("/b/-")}, api.Spot{Err: api.ErrNone}}, {[]api.Part{part("/a/x")}, api.Spot{Err: api.ErrNone}}, {make([]api.Part, api.MaxSteps+1), api.ErrLong}, {make([]api.Part, api.MaxSteps), api.Spot{Err: api.ErrSalt}},
	} {
		got, l, err := veil.Hide(tree, c.parts)
		if err != c.want || (got == nil) != (err != nil) || err != nil && l != nil {
			t.Errorf("case %d: %v, want %v", i, err, c.want)
		}
	}
	if got, l, err := veil.Hide(nil, make([]api.Part, api.MaxSteps+1)); got != nil || l != nil || err != api.ErrNil {
		t.Errorf("Hide of nil: %v", err)
	}
	if got, l, err := veil.Hide(tree, nil); err != nil || !got.Same(tree) || len(l) != 0 {
		t.Errorf("Hide of nothing: %v", err)
	}
}

func TestOpeningsThatMayNotBe(t *testing.T) {
	tree := read(t, "["+veilOf(s0, "2")+"]")
	for i, c := range []struct {
		o    api.Opening
		want api.Errno
	}{
		{opening(t, salt(65, 0), "1"), api.ErrSalt}, {opening(t, salt(15, 0), "1"), api.ErrSalt}, {api.Opening{Salt: nil}, api.ErrSalt}, {opening(t, s0, veilOf(s0, "2")), api.ErrOpening}, {api.Opening{Salt: s0}, api.ErrOpening}, {api.Opening{Salt: s0, Steps: []api.Step{{Sort: 9}}}, api.ErrOpening}, {api.Opening{Salt: s0, Steps: make([]api.Step, api.MaxSteps+1)}, api.ErrOpening},
	} {
		b, err := veil.Bytes(c.o)
		d, err2 := veil.Digest(c.o)
		l, err3 := veil.Fits(tree, c.o)
		good := opening(t, s0, "2")
		got, err4 := veil.Open(tree, []api.Opening{good, c.o})
		n, err5 := veil.Needed(tree, []api.Opening{good, good, c.o, {}}, "/0")
		if b != nil || err != c.want || d != (api.Digest{}) || err2 != c.want || l != nil || err3 != c.want || got != nil || err4 != (api.Spot{Err: c.want, At: 1}) || n != nil || err5 != (api.Spot{Err: c.want, At: 2}) {
			t.Errorf("case %d: %v, %v, %v, %v, %v", i, err, err2, err3, err4, err5)
		}
	}
	if l, err := veil.Fits(nil, api.Opening{}); l != nil || err != api.ErrNil {
		t.Errorf("Fits of nil: %v", err)
	}
	if got, err := veil.Open(nil, []api.Opening{{}}); got != nil || err != api.ErrNil {
		t.Errorf("Open of nil: %v", err)
	}
	if n, err := veil.Needed(nil, nil, "x"); n != nil || err != api.ErrNil {
		t.Errorf("Needed of nil: %v", err)
	}
	long := make([]api.Opening, api.MaxSteps+1)
	if got, err := veil.Open(tree, long); got != nil || err != api.ErrLong {
		t.Errorf("Open with too many: %v", err)
	}
	if n, err := veil.Needed(tree, long, "x"); n != nil || err != api.ErrLong {
		t.Errorf("Needed of too many: %v", err)
	}
	if n, err := veil.Needed(tree, long[1:], "x"); n != nil || err != api.ErrArg {
		t.Errorf("Needed of no pointer: %v", err)
	}
	if got, err := veil.Open(tree, slices.Repeat([]api.Opening{opening(t, s0, "2")}, 3000)); err != nil || form(got) != "[2]" {
		t.Errorf("Open with one opening many times: %v", err)
	}
}

func TestBytesAndDigest(t *testing.T) {
	b, err := veil.Bytes(opening(t, s0, "null"))
	if err != nil || len(b) != 36 || string(b) != "affidavit veil\x00\x10"+string(s0)+"null" {
		t.Errorf("Bytes: %q, %v", b, err)
	}
	for _, value := range []string{"null", `{"b":1.0,"a":[2]}`, `{"~":"x"}`, `{"~":1}`} {
		for _, n := range []int{16, 17, 64} {
			d, err := veil.Digest(opening(t, salt(n, 7), value))
			if err != nil || base64.RawURLEncoding.EncodeToString(d[:]) != letters(salt(n, 7), form(read(t, value))) {
				t.Errorf("Digest of %s: %x, %v", value, d, err)
			}
		}
	}
}

func TestHiddenAndFits(t *testing.T) {
	v := veilOf(s0, "2")
	for s, want := range map[string][]string{
		`{"~":"x"}`: nil, v[:len(v)-1] + `,"a":1}`: nil, "[" + v + "]": {"/0"}, v: {""}, `{"~":` + v + "}": {"/~0"}, `{"a":` + v + `,"b":[1,` + v + `,{"c":` + veilOf(s1, "3") + "}]}": {"/a", "/b/1", "/b/2/c"}, `{"~":null}`: nil, `{"~":["` + letters(s0, "2") + `"]}`: nil, `{"~~":"` + letters(s0, "2") + `"}`: nil, `{"~":"` + letters(s0, "2")[1:] + `"}`: nil, `{"~":"` + letters(s0, "2") + `A"}`: nil, `{"~":"` + strings.Repeat("A", 42) + `B"}`: nil, `{"~":"` + strings.Repeat("A", 42) + `Q"}`: {""}, `{"~":"` + strings.Repeat("A", 42) + `+"}`: nil, `"` + letters(s0, "2") + `"`: nil, `["~","` + letters(s0, "2") + `"]`: nil,
	} {
		if got := veil.Hidden(read(t, s)); !slices.Equal(got, want) {
			t.Errorf("Hidden of %s: %q", s, got)
		}
	}
	if got := veil.Hidden(nil); len(got) != 0 {
		t.Errorf("Hidden of nil: %q", got)
	}
	tree := read(t, `{"a":`+v+`,"b":[`+v+","+veilOf(s1, "2")+"]}")
	if l, err := veil.Fits(tree, opening(t, s0, "2.0")); err != nil || !slices.Equal(l, []string{"/a", "/b/0"}) {
		t.Errorf("Fits: %q, %v", l, err)
	}
	if l, err := veil.Fits(tree, opening(t, s0, "3")); l != nil || err != api.ErrNone {
		t.Errorf("Fits: %q, %v", l, err)
	}
}

// random is a value without veils, as a document.
func random(r *rand.Rand, depth int) string {
	k := r.Intn(7)
	if depth == 1 {
		k = r.Intn(3)
	}
	var l []string
	switch {
	case k > 4:
		for _, key := range []string{"a", "b", "~", "c/d"} {
			if r.Intn(2) == 0 {
				l = append(l, strconv.Quote(key)+":"+random(r, depth-1))
			}
		}
		return "{" + strings.Join(l, ",") + "}"
	case k > 2:
		for range r.Intn(4) {
			l = append(l, random(r, depth-1))
		}
		return "[" + strings.Join(l, ",") + "]"
	}
	return []string{"null", "1", `"x"`}[k]
}

// hide hides one part, by the words of the document.
func hide(v api.Value, p string, salt []byte) (api.Value, api.Value) {
	if p == "" {
		m := node.New()
		put(m, v)
		tree, _ := m.Tree()
		return api.Object{{Key: "~", Value: api.Text(letters(salt, form(tree)))}}, v
	}
	tokens, _ := pointer.Parse(p)
	rest, _ := pointer.Print(tokens[1:])
	switch x := v.(type) {
	case api.List:
		x = slices.Clone(x)
		i, _ := strconv.Atoi(tokens[0])
		inner, was := hide(x[i], rest, salt)
		x[i] = inner
		return x, was
	case api.Object:
		x = slices.Clone(x)
		i := slices.IndexFunc(x, func(m api.Member) bool { return m.Key == tokens[0] })
		inner, was := hide(x[i].Value, rest, salt)
		x[i].Value = inner
		return x, was
	}
	panic("nothing is there")
}

func put(m *node.Maker, v api.Value) {
	switch x := v.(type) {
	case api.Null:
		m.Null()
	case api.Number:
		m.Number(float64(x))
	case api.Text:
		m.Text(string(x))
	case api.List:
		for _, u := range x {
			put(m, u)
		}
		m.List(len(x))
	case api.Object:
		var keys []string
		for _, u := range x {
			put(m, u.Value)
			keys = append(keys, u.Key)
		}
		m.Object(keys...)
	}
}

func TestThereAndBack(t *testing.T) {
	r := rand.New(rand.NewSource(1))
	for range 1500 {
		tree := read(t, random(r, 5))
		now, want := tree, tree.Value()
		var parts []api.Part
		var values []api.Value
		for i := range r.Intn(6) {
			var free []string
			for p := range pointer.All(now) {
				if !slices.ContainsFunc(veil.Hidden(now), func(h string) bool { in, _ := pointer.Within(h, p); return in }) {
					free = append(free, p)
				}
			}
			if len(free) == 0 {
				break
			}
			part := api.Part{Pointer: free[r.Intn(len(free))], Salt: append(salt(15+r.Intn(40), 3), byte(i))}
			next, _, err := veil.Hide(now, []api.Part{part})
			if err != nil {
				t.Fatalf("Hide(%s, %s): %v", form(now), part.Pointer, err)
			}
			var was api.Value
			want, was = hide(want, part.Pointer, part.Salt)
			now, parts, values = next, append(parts, part), append(values, was)
		}
		got, openings, err := veil.Hide(tree, parts)
		if err != nil || !got.Same(now) || !reflect.DeepEqual(got.Value(), want) || len(openings) != len(parts) {
			t.Fatalf("Hide(%s, %v): %s, %v, want %s", form(tree), parts, form(got), err, form(now))
		}
		for i, o := range openings {
			value, err := node.Build(o.Steps)
			if err != nil || !bytes.Equal(o.Salt, parts[i].Salt) || !reflect.DeepEqual(value.Value(), values[i]) {
				t.Fatalf("the opening of %v: %v", parts[i], o)
			}
		}
		slices.Reverse(openings)
		if back, err := veil.Open(got, openings); err != nil || !back.Same(tree) {
			t.Fatalf("Open(%s): %s, %v, want %s", form(got), form(back), err, form(tree))
		}
		checkNeeded(t, r, tree, got, openings)
	}
}

// checkNeeded: the openings that are needed are enough.
func checkNeeded(t *testing.T, r *rand.Rand, tree, hidden *node.Tree, openings []api.Opening) {
	t.Helper()
	r.Shuffle(len(openings), func(i, j int) { openings[i], openings[j] = openings[j], openings[i] })
	for p, ref := range pointer.All(tree) {
		needed, err := veil.Needed(hidden, openings, p)
		if err != nil {
			t.Fatalf("Needed(%s, %s): %v", form(hidden), p, err)
		}
		var l []api.Opening
		for _, i := range needed {
			l = append(l, openings[i])
		}
		open, err := veil.Open(hidden, l)
		if err != nil {
			t.Fatalf("Open(%s) with those of %s: %v", form(hidden), p, err)
		}
		got, err := pointer.Find(open, p)
		if err != nil || slices.Contains(veil.Hidden(open), p) || len(veil.Hidden(ref.Tree())) == 0 && len(veil.Hidden(got.Tree())) == 0 && !got.Same(ref) {
			t.Fatalf("Open(%s) with those of %s: %s, %v", form(hidden), p, form(open), err)
		}
		if len(needed) > 0 {
			last := needed[len(needed)-1]
			if _, err := veil.Needed(hidden, slices.Delete(slices.Clone(openings), last, last+1), p); err == nil {
				t.Fatalf("%s: %d is not needed", p, last)
			}
		}
	}
}

// TestSeveralVeils: one opening fits several veils, and a second time it changes nothing.
func TestSeveralVeils(t *testing.T) {
	tree, l, err := veil.Hide(read(t, `[[1],[1],{"a":[1]}]`), []api.Part{{Pointer: "/0", Salt: s0}, {Pointer: "/2/a", Salt: s0}, {Pointer: "/1/0", Salt: s1}})
	if err != nil {
		t.Fatal(err)
	}
	got, err := veil.Open(tree, []api.Opening{l[1], l[0], l[2], l[1]})
	if err != nil || form(got) != `[[1],[1],{"a":[1]}]` {
		t.Errorf("Open: %s, %v", form(got), err)
	}
	if got, err := veil.Open(tree, []api.Opening{l[2], opening(t, s1, "2")}); got != nil || err != (api.Spot{Err: api.ErrNone, At: 1}) {
		t.Errorf("Open: %v", err)
	}
	if got, err := veil.Open(tree, nil); err != nil || !got.Same(tree) {
		t.Errorf("Open with nothing: %v", err)
	}
	again, err := veil.Open(read(t, "["+veilOf(s0, veilOf(s0, "1"))+"]"), []api.Opening{opening(t, s0, "1")})
	if again != nil || err != (api.Spot{Err: api.ErrNone}) {
		t.Errorf("Open of what is within: %v", err)
	}
}

// TestTextThatMakesAVeil: a text that stood in a veil may make a veil of the object around.
func TestTextThatMakesAVeil(t *testing.T) {
	text := `"` + letters(s1, "[7]") + `"`
	tree := read(t, `[{"~":`+veilOf(s0, text)+"}]")
	if got := veil.Hidden(tree); !slices.Equal(got, []string{"/0/~0"}) {
		t.Fatalf("Hidden: %q", got)
	}
	o, p := opening(t, s0, text), opening(t, s1, "[7]")
	if got, err := veil.Open(tree, []api.Opening{p, o}); got != nil || err != (api.Spot{Err: api.ErrNone}) {
		t.Errorf("Open: %v", err)
	}
	one, err := veil.Open(tree, []api.Opening{o})
	if err != nil || form(one) != "["+veilOf(s1, "[7]")+"]" || !slices.Equal(veil.Hidden(one), []string{"/0"}) {
		t.Errorf("Open: %s, %v", form(one), err)
	}
	if got, err := veil.Open(tree, []api.Opening{o, p}); err != nil || form(got) != "[[7]]" {
		t.Errorf("Open: %s, %v", form(got), err)
	}
	if n, err := veil.Needed(tree, []api.Opening{p, o}, "/0/~0"); err != nil || !slices.Equal(n, []int{1}) {
		t.Errorf("Needed: %v, %v", n, err)
	}
	whole := read(t, `{"~":`+veilOf(s0, text)+"}")
	if got, err := veil.Open(whole, []api.Opening{o, p}); err != nil || form(got) != "[7]" {
		t.Errorf("Open: %s, %v", form(got), err)
	}
}

func TestLimits(t *testing.T) {
	deep := read(t, strings.Repeat("[", 511)+"1"+strings.Repeat("]", 511))
	if got, _, err := veil.Hide(deep, []api.Part{{Pointer: strings.Repeat("/0", 511), Salt: s0}}); got != nil || err != (api.Spot{Err: api.ErrLong}) {
		t.Errorf("too deep: %v", err)
	}
	if got, _, err := veil.Hide(deep, []api.Part{{Pointer: strings.Repeat("/0", 510), Salt: s0}}); got == nil || err != nil {
		t.Errorf("as deep as may be: %v", err)
	}
	wide := "[" + strings.Repeat("1,", 65533) + "1]" // one value fewer than may be
	if got, _, err := veil.Hide(read(t, wide), []api.Part{{Pointer: "/0", Salt: s0}}); got == nil || err != nil {
		t.Errorf("as many as may be: %v", err)
	}
	if got, _, err := veil.Hide(read(t, wide), []api.Part{{Pointer: "/0", Salt: s0}, {Pointer: "/1", Salt: s0}}); got != nil || err != (api.Spot{Err: api.ErrLong, At: 1}) {
		t.Errorf("too many: %v", err)
	}
	long := `["` + strings.Repeat("x", api.MaxBytes-44) + `",1,2]`
	if got, _, err := veil.Hide(read(t, long), []api.Part{{Pointer: "/1", Salt: s0}}); got == nil || err != nil {
		t.Errorf("as long as may be: %v", err)
	}
	if got, _, err := veil.Hide(read(t, long), []api.Part{{Pointer: "/2", Salt: s0}, {Pointer: "/1", Salt: s0}}); got != nil || err != (api.Spot{Err: api.ErrLong, At: 1}) {
		t.Errorf("too long: %v", err)
	}
	if got, l, err := veil.Hide(read(t, long), []api.Part{{Pointer: "/0", Salt: s0}, {Pointer: "/1", Salt: s0}, {Pointer: "/2", Salt: s0}}); got == nil || err != nil || len(l) != 3 {
		t.Errorf("the long one first: %v", err)
	}
	many := "[" + strings.Repeat("0,", 999) + "0]"
	veils := "[" + strings.Repeat(veilOf(s0, many)+",", 64) + "1]"
	if got, err := veil.Open(read(t, veils), []api.Opening{opening(t, s0, many)}); got == nil || err != nil {
		t.Errorf("one opening in many veils: %v", err)
	}
	veils = "[" + strings.Repeat(veilOf(s0, many)+",", 65) + veilOf(s0, many) + "]"
	if got, err := veil.Open(read(t, veils), []api.Opening{opening(t, s0, many)}); got != nil || err != (api.Spot{Err: api.ErrLong}) {
		t.Errorf("one opening in too many veils: %v", err)
	}
	nested := strings.Repeat("[", 500) + veilOf(s0, "[[[[[[[[[[[1]]]]]]]]]]]") + strings.Repeat("]", 500)
	if got, err := veil.Open(read(t, nested), []api.Opening{opening(t, s0, "[[[[[[[[[[[1]]]]]]]]]]]")}); got == nil || err != nil {
		t.Errorf("opened as deep as may be: %v", err)
	}
	nested = "[" + nested + "]"
	if got, err := veil.Open(read(t, nested), []api.Opening{opening(t, s0, "[[[[[[[[[[[1]]]]]]]]]]]")}); got != nil || err != (api.Spot{Err: api.ErrLong}) {
		t.Errorf("opened too deep: %v", err)
	}
}

// TestAsMuchAsIsShown: P23.8.
func TestAsMuchAsIsShown(t *testing.T) {
	parts := []api.Part{{Pointer: "/a/0", Salt: s0}, {Pointer: "/b", Salt: s1}}
	x, _, _ := veil.Hide(read(t, `{"a":[1,2],"b":3,"c":4}`), parts)
	y, _, _ := veil.Hide(read(t, `{"a":[[5],2],"b":{"d":6},"c":4}`), parts)
	blank := func(tree *node.Tree) string {
		s := form(tree)
		for _, p := range veil.Hidden(tree) {
			v := pointer.Look(tree, p).(api.Object)[0].Value.(api.Text)
			s = strings.Replace(s, string(v), "", 1)
		}
		return s
	}
	if blank(x) != blank(y) || form(x) == form(y) {
		t.Errorf("%s and %s", form(x), form(y))
	}
}

func TestMemory(t *testing.T) {
	s := salt(16, 5)
	tree := read(t, `{"a":{"k":[1]}}`)
	_, l, _ := veil.Hide(tree, []api.Part{{Pointer: "/a", Salt: s}})
	s[0] = 9
	if l[0].Salt[0] != 5 {
		t.Error("a salt is shared")
	}
	l[0].Steps[2].Keys[0] = "spoilt"
	_, m, _ := veil.Hide(tree, []api.Part{{Pointer: "/a", Salt: salt(16, 5)}})
	if m[0].Steps[2].Keys[0] != "k" || form(tree) != `{"a":{"k":[1]}}` {
		t.Error("steps are shared")
	}
}
