package merge_test

import (
	"math/rand"
	"reflect"
	"slices"
	"strconv"
	"strings"
	"testing"
	"unicode/utf16"

	"affidavit/api"
	"affidavit/canon"
	"affidavit/merge"
	"affidavit/node"
	"affidavit/parse"
	"affidavit/pointer"
)

func read(t testing.TB, s string) *node.Tree {
	t.Helper()
	tree, err := parse.Read([]byte(s), api.MaxDepth)
	if err != nil {
		t.Fatalf("%.80s: %v", s, err)
	}
	return tree
}

func form(tree *node.Tree) string {
	b, _ := canon.Bytes(tree)
	return string(b)
}

func TestMergeExamples(t *testing.T) {
	for _, c := range [][3]string{
		{`{"a":1,"b":{"c":2}}`, `{"b":{"c":null,"d":3},"a":null}`, `{"b":{"d":3}}`}, {"[1,2]", `{"a":1}`, `{"a":1}`}, {`{"a":1}`, "[1]", "[1]"}, {`{"a":[{"b":null}]}`, `{"a":[null]}`, `{"a":[null]}`}, {"1", `{"a":{"b":null}}`, `{"a":{}}`}, {`{"a":null}`, "{}", `{"a":null}`}, {"{}", "null", "null"}, {"null", "{}", "{}"}, {`{"a":{"b":1}}`, `{"a":{"c":{"d":null,"e":[null]}}}`, `{"a":{"b":1,"c":{"e":[null]}}}`}, {`{"a":1}`, `{"b":null}`, `{"a":1}`}, {`{"a":{"x":1}}`, `{"a":2}`, `{"a":2}`}, {`{"a":2}`, `{"a":{"x":null}}`, `{"a":{}}`}, {`{"a":[1]}`, `{"a":{"0":2}}`, `{"a":{"0":2}}`}, {`{"\uff61":1}`, `{"\ud83d\ude00":2,"\uff61":null}`, `{"😀":2}`},
	} {
		tree := read(t, c[0])
		got, err := merge.Merge(tree, read(t, c[1]))
		if err != nil || form(got) != c[2] || form(tree) != form(read(t, c[0])) {
			t.Errorf("Merge(%s, %s): %s, %v, want %s", c[0], c[1], form(got), err, c[2])
		}
	}
}

// lay is what comes of laying p over v, nil being none, by the words of the document.
func lay(v, p api.Value) api.Value {
	o, ok := p.(api.Object)
	if !ok {
		return p
	}
	base, _ := v.(api.Object)
	out := slices.Clone(base)
	for _, m := range o {
		i := slices.IndexFunc(out, func(n api.Member) bool { return n.Key == m.Key })
		_, null := m.Value.(api.Null)
		switch {
		case null && i >= 0:
			out = slices.Delete(out, i, i+1)
		case null:
		case i >= 0:
			out[i].Value = lay(out[i].Value, m.Value)
		default:
			out = append(out, api.Member{Key: m.Key, Value: lay(nil, m.Value)})
		}
	}
	return sorted(out)
}

func sorted(o api.Object) api.Object {
	if o == nil {
		o = api.Object{}
	}
	slices.SortFunc(o, func(a, b api.Member) int {
		return slices.Compare(utf16.Encode([]rune(a.Key)), utf16.Encode([]rune(b.Key)))
	})
	return o
}

func get(v api.Value, key string) api.Value {
	o, _ := v.(api.Object)
	for _, m := range o {
		if m.Key == key {
			return m.Value
		}
	}
	return nil
}

// between is the overlay from v to w, or the pointer of the first null that can't be told.
func between(v, w api.Value, p string) (api.Value, string) {
	o, ok := w.(api.Object)
	if !ok {
		return w, ""
	}
	var out api.Object
	base, _ := v.(api.Object)
	for _, m := range base {
		if get(w, m.Key) == nil {
			out = append(out, api.Member{Key: m.Key, Value: api.Null{}})
		}
	}
	for _, m := range o {
		was := get(v, m.Key)
		if reflect.DeepEqual(was, m.Value) {
			continue
		}
		at, _ := pointer.Down(p, m.Key)
		if m.Value == (api.Null{}) {
			return nil, at
		}
		inner, wrong := between(was, m.Value, at)
		if wrong != "" {
			return nil, wrong
		}
		out = append(out, api.Member{Key: m.Key, Value: inner})
	}
	return sorted(out), ""
}

// three is what comes of putting together, nil being none, and the conflicts.
func three(o, x, y api.Value, p string) (api.Value, []string) {
	switch {
	case reflect.DeepEqual(x, y):
		return x, nil
	case reflect.DeepEqual(x, o):
		return y, nil
	case reflect.DeepEqual(y, o):
		return x, nil
	}
	xo, ok := x.(api.Object)
	yo, ok2 := y.(api.Object)
	if !ok || !ok2 {
		return x, []string{p}
	}
	oo, _ := o.(api.Object)
	keys := map[string]bool{}
	var all api.Object
	for _, m := range slices.Concat(oo, xo, yo) {
		if !keys[m.Key] {
			keys[m.Key] = true
			all = append(all, api.Member{Key: m.Key})
		}
	}
	var out api.Object
	var conflicts []string
	for _, m := range sorted(all) {
		at, _ := pointer.Down(p, m.Key)
		v, c := three(get(o, m.Key), get(x, m.Key), get(y, m.Key), at)
		conflicts = append(conflicts, c...)
		if v != nil {
			out = append(out, api.Member{Key: m.Key, Value: v})
		}
	}
	return sorted(out), conflicts
}

func clean(v api.Value) api.Value {
	o, ok := v.(api.Object)
	if !ok {
		return v
	}
	out := api.Object{}
	for _, m := range o {
		if m.Value != nil && m.Value.Sort() != api.SortNull {
			out = append(out, api.Member{Key: m.Key, Value: clean(m.Value)})
		}
	}
	return out
}

// random is a value, as a document.
func random(r *rand.Rand, depth int) string {
	k := r.Intn(8)
	if depth == 1 {
		k = r.Intn(4)
	}
	var l []string
	switch {
	case k > 4:
		for _, key := range []string{"a", "b", "c/d", "\uff61", "😀"} {
			if r.Intn(2) == 0 {
				l = append(l, strconv.Quote(key)+":"+random(r, depth-1))
			}
		}
		return "{" + strings.Join(l, ",") + "}"
	case k == 4:
		for range r.Intn(3) {
			l = append(l, random(r, depth-1))
		}
		return "[" + strings.Join(l, ",") + "]"
	}
	return []string{"null", "1", "2", `"x"`}[k]
}

// near is a value that is often the same in parts.
func near(r *rand.Rand, t *testing.T, tree *node.Tree) *node.Tree {
	t.Helper()
	over := read(t, random(r, 4))
	if r.Intn(5) == 0 {
		return over
	}
	got, err := merge.Merge(tree, over)
	if err != nil {
		t.Fatal(err)
	}
	return got
}

func TestAgainstReference(t *testing.T) {
	r := rand.New(rand.NewSource(1))
	told, untold := 0, 0
	for range 10000 {
		a := read(t, random(r, 4))
		b := near(r, t, a)
		over := read(t, random(r, 4))
		got, err := merge.Merge(a, over)
		if err != nil || !reflect.DeepEqual(got.Value(), lay(a.Value(), over.Value())) {
			t.Fatalf("Merge(%s, %s): %s, %v", form(a), form(over), form(got), err)
		}
		if again, err := merge.Merge(got, over); err != nil || !again.Same(got) {
			t.Fatalf("Merge(%s, %s) again: %s, %v", form(got), form(over), form(again), err)
		}
		want, wrong := between(a.Value(), b.Value(), "")
		overlay, err := merge.Between(a, b)
		if wrong != "" {
			untold++
			if overlay != nil || err != (api.Trail{Err: api.ErrNull, Pointer: wrong}) {
				t.Fatalf("Between(%s, %s): %v, want %s", form(a), form(b), err, wrong)
			}
		} else {
			told++
			if err != nil || !reflect.DeepEqual(overlay.Value(), want) {
				t.Fatalf("Between(%s, %s): %s, %v", form(a), form(b), form(overlay), err)
			}
			if back, err := merge.Merge(a, overlay); err != nil || !back.Same(b) {
				t.Fatalf("Merge(%s, %s): %s, %v, want %s", form(a), form(overlay), form(back), err, form(b))
			}
		}
		checkClean(t, a)
		checkThree(t, a, b, near(r, t, a))
	}
	if told < 1000 || untold < 200 {
		t.Errorf("%d told, %d not", told, untold)
	}
}

func checkClean(t *testing.T, a *node.Tree) {
	t.Helper()
	c, err := merge.Clean(a)
	self, err2 := merge.Merge(a, a)
	if err != nil || err2 != nil || !c.Same(self) || !reflect.DeepEqual(c.Value(), clean(a.Value())) {
		t.Fatalf("Clean(%s): %s, %v", form(a), form(c), err)
	}
}

func checkThree(t *testing.T, o, x, y *node.Tree) {
	t.Helper()
	want, conflicts := three(o.Value(), x.Value(), y.Value(), "")
	got, l, err := merge.Three(o, x, y)
	if err != nil || !reflect.DeepEqual(got.Value(), want) || !slices.Equal(l, conflicts) {
		t.Fatalf("Three(%s, %s, %s): %s, %q, %v", form(o), form(x), form(y), form(got), l, err)
	}
	turned, m, err := merge.Three(o, y, x)
	if err != nil || !slices.Equal(l, m) || len(l) == 0 && !turned.Same(got) {
		t.Fatalf("Three(%s, %s, %s): %s, %q, %v", form(o), form(y), form(x), form(turned), m, err)
	}
	for i, p := range l {
		for k, q := range l {
			if in, _ := pointer.Within(p, q); in && i != k {
				t.Fatalf("conflicts %q", l)
			}
		}
	}
	for _, c := range [][4]*node.Tree{{o, x, o, x}, {o, o, y, y}, {o, x, x, x}} {
		if got, l, err := merge.Three(c[0], c[1], c[2]); err != nil || len(l) != 0 || !got.Same(c[3]) {
			t.Fatalf("Three(%s, %s, %s): %s, %q, %v", form(c[0]), form(c[1]), form(c[2]), form(got), l, err)
		}
	}
}

func TestBetweenExamples(t *testing.T) {
	for _, c := range [][3]string{
		{`{"a":1,"b":2}`, `{"b":3,"c":{}}`, `{"a":null,"b":3,"c":{}}`}, {`{"a":null}`, `{"a":null,"b":1}`, `{"b":1}`}, {"1", `{"x":[null]}`, `{"x":[null]}`}, {`{"a":1}`, "null", "null"}, {`{"a":{"b":1,"c":null}}`, `{"a":{"c":null}}`, `{"a":{"b":null}}`}, {"1", "1", "1"}, {"{}", "{}", "{}"}, {`{"a":1}`, `{"a":1}`, "{}"}, {"[1]", "[2]", "[2]"}, {`{"a":[1]}`, `{"a":{}}`, `{"a":{}}`},
	} {
		got, err := merge.Between(read(t, c[0]), read(t, c[1]))
		if err != nil || form(got) != c[2] {
			t.Errorf("Between(%s, %s): %s, %v, want %s", c[0], c[1], form(got), err, c[2])
		}
	}
	for _, c := range [][3]string{{"{}", `{"a":{"b":null}}`, "/a/b"}, {`{"a":1}`, `{"a":null}`, "/a"}, {"1", `{"x~":{"y/":null},"z":null}`, "/x~0/y~1"}, {`{"a":[1]}`, `{"a":{"b":{"c":null}},"b":null}`, "/a/b/c"}, {"null", `{"😀":1,"\uff61":null,"\ud83d\ude01":null}`, "/😁"}} {
		got, err := merge.Between(read(t, c[0]), read(t, c[1]))
		if got != nil || err != (api.Trail{Err: api.ErrNull, Pointer: c[2]}) {
			t.Errorf("Between(%s, %s): %v, want %s", c[0], c[1], err, c[2])
		}
	}
}

func TestOver(t *testing.T) {
	got, err := merge.Over(read(t, "{}"), read(t, `{"a":1}`), read(t, `{"a":null,"b":2}`))
	if err != nil || form(got) != `{"b":2}` {
		t.Errorf("Over: %s, %v", form(got), err)
	}
	tree := read(t, `{"a":{"b":1}}`)
	if got, err := merge.Over(tree); err != nil || !got.Same(tree) {
		t.Errorf("Over of nothing: %v", err)
	}
	r := rand.New(rand.NewSource(2))
	for range 2000 {
		tree := read(t, random(r, 4))
		want := tree
		var l []*node.Tree
		for range r.Intn(6) {
			l = append(l, read(t, random(r, 4)))
			want, _ = merge.Merge(want, l[len(l)-1])
		}
		if got, err := merge.Over(tree, l...); err != nil || !got.Same(want) {
			t.Fatalf("Over(%s): %s, %v, want %s", form(tree), form(got), err, form(want))
		}
	}
	many := slices.Repeat([]*node.Tree{read(t, `{"a":{"b":2}}`)}, api.MaxSteps)
	if got, err := merge.Over(tree, many...); err != nil || form(got) != `{"a":{"b":2}}` {
		t.Errorf("Over of many: %v", err)
	}
	if got, err := merge.Over(tree, append(many, tree)...); got != nil || err != api.ErrLong {
		t.Errorf("Over of too many: %v", err)
	}
	if got, err := merge.Over(tree, append(many, nil)...); got != nil || err != api.ErrNil {
		t.Errorf("Over of nil: %v", err)
	}
}

func TestThreeExamples(t *testing.T) {
	for _, c := range [][5]string{
		{`{"a":1,"b":1}`, `{"a":2,"b":1}`, `{"a":1}`, `{"a":2}`, ""}, {`{"a":1}`, `{"a":2}`, `{"a":3}`, `{"a":2}`, "/a"}, {`{"a":1}`, "{}", `{"a":2}`, "{}", "/a"}, {"1", `{"a":1}`, `{"b":2}`, `{"a":1,"b":2}`, ""}, {"1", "2", "3", "2", " "}, {`{"a":{"x":1},"b":[1]}`, `{"a":{"x":2,"y":1},"b":[2]}`, `{"a":{"x":3,"z":1},"b":[3]}`, `{"a":{"x":2,"y":1,"z":1},"b":[2]}`, "/a/x /b"}, {"{}", `{"a":1}`, `{"a":1}`, `{"a":1}`, ""}, {`{"a":{}}`, `{"a":1}`, "{}", `{"a":1}`, "/a"}, {`{"a":1,"b":2}`, `{"b":2}`, `{"a":1}`, "{}", ""}, {"{}", `{"a":null}`, `{"a":1}`, `{"a":null}`, "/a"},
	} {
		got, l, err := merge.Three(read(t, c[0]), read(t, c[1]), read(t, c[2]))
		want := strings.Fields(c[4])
		if c[4] == " " {
			want = []string{""}
		}
		if err != nil || form(got) != c[3] || !slices.Equal(l, want) {
			t.Errorf("Three(%s, %s, %s): %s, %q, %v", c[0], c[1], c[2], form(got), l, err)
		}
	}
}

func TestCleanExamples(t *testing.T) {
	for s, want := range map[string]string{`{"a":null,"b":{"c":null},"d":[null]}`: `{"b":{},"d":[null]}`, "null": "null", `[{"a":null}]`: `[{"a":null}]`, `{"a":[{"b":null}]}`: `{"a":[{"b":null}]}`, "{}": "{}", `{"a":{"b":{"c":null,"d":0}}}`: `{"a":{"b":{"d":0}}}`} {
		if got, err := merge.Clean(read(t, s)); err != nil || form(got) != want {
			t.Errorf("Clean(%s): %s, %v", s, form(got), err)
		}
	}
}

func TestNil(t *testing.T) {
	x := read(t, "{}")
	for i, f := range []func() (*node.Tree, error){
		func() (*node.Tree, error) { return merge.Merge(nil, x) }, func() (*node.Tree, error) { return merge.Merge(x, nil) }, func() (*node.Tree, error) { return merge.Over(nil) }, func() (*node.Tree, error) { return merge.Over(x, x, nil) }, func() (*node.Tree, error) { return merge.Between(nil, x) }, func() (*node.Tree, error) { return merge.Between(x, nil) }, func() (*node.Tree, error) { return merge.Clean(nil) },
	} {
		if got, err := f(); got != nil || err != api.ErrNil {
			t.Errorf("call %d: %v", i, err)
		}
	}
	for i := range 3 {
		l := []*node.Tree{x, x, x}
		l[i] = nil
		if got, c, err := merge.Three(l[0], l[1], l[2]); got != nil || c != nil || err != api.ErrNil {
			t.Errorf("Three with nil at %d: %v", i, err)
		}
	}
}

// wide is an object with so many members, all of them numbers.
func wide(head string, n int) string {
	var s strings.Builder
	s.WriteByte('{')
	for i := range n {
		if i > 0 {
			s.WriteByte(',')
		}
		s.WriteString(`"` + head + strconv.Itoa(i) + `":` + strconv.Itoa(i))
	}
	return s.String() + "}"
}

func TestLimits(t *testing.T) {
	a, b := read(t, wide("a", 32768)), read(t, wide("b", 32767))
	more := read(t, wide("b", 32768))
	if got, err := merge.Merge(a, b); err != nil || got.Root().Len() != 65535 {
		t.Errorf("as many as may be: %v", err)
	}
	if got, err := merge.Merge(a, more); got != nil || err != api.ErrLong {
		t.Errorf("too many: %v", err)
	}
	one := read(t, `{"x":1}`)
	gone := read(t, `{"a0":null}`)
	for i, c := range []struct {
		l    []*node.Tree
		want error
	}{{[]*node.Tree{b, one}, api.Spot{Err: api.ErrLong, At: 1}}, {[]*node.Tree{b, gone, one}, nil}, {[]*node.Tree{more}, api.Spot{Err: api.ErrLong}}, {[]*node.Tree{gone, more, gone, one}, api.Spot{Err: api.ErrLong, At: 3}}, {[]*node.Tree{b, read(t, "1"), more, one, a}, api.Spot{Err: api.ErrLong, At: 4}}} {
		if got, err := merge.Over(a, c.l...); err != c.want || (got == nil) != (err != nil) {
			t.Errorf("case %d: %v, want %v", i, err, c.want)
		}
	}
	if got, err := merge.Between(a, more); got != nil || err != api.ErrLong {
		t.Errorf("an overlay of too many: %v", err)
	}
	if got, err := merge.Between(a, b); err != nil || got.Root().Len() != 65535 {
		t.Errorf("an overlay of as many as may be: %v", err)
	}
	null := read(t, strings.Replace(wide("b", 32768), ":32767", ":null", 1))
	if got, err := merge.Between(a, null); got != nil || err != (api.Trail{Err: api.ErrNull, Pointer: "/b32767"}) {
		t.Errorf("an overlay that can't be told: %v", err)
	}
	if got, l, err := merge.Three(read(t, "{}"), a, b); err != nil || len(l) != 0 || got.Root().Len() != 65535 {
		t.Errorf("Three of as many as may be: %v", err)
	}
	if got, l, err := merge.Three(read(t, "1"), a, more); got != nil || l != nil || err != api.ErrLong {
		t.Errorf("Three of too many: %v", err)
	}
	if got, l, err := merge.Three(a, more, b); err != nil || len(l) != 0 || got.Root().Len() != 32768 {
		t.Errorf("Three of more than may be in all: %v", err)
	}
	checkDeepAndLong(t)
}

func checkDeepAndLong(t *testing.T) {
	t.Helper()
	deep := func(n int) string { return strings.Repeat(`{"a":`, n) + "1" + strings.Repeat("}", n) }
	if got, err := merge.Merge(read(t, deep(511)), read(t, deep(511))); err != nil || form(got) != deep(511) {
		t.Errorf("as deep as may be: %v", err)
	}
	half := strings.Repeat("x", api.MaxBytes/2)
	a, b := read(t, `{"a":"`+half[1:]+`"}`), read(t, `{"b":"`+half[1:]+`"}`)
	if got, err := merge.Merge(a, b); err != nil || got.Root().Len() != 2 {
		t.Errorf("as long as may be: %v", err)
	}
	if got, err := merge.Over(a, b, read(t, `{"c":1}`)); got != nil || err != (api.Spot{Err: api.ErrLong, At: 1}) {
		t.Errorf("too long: %v", err)
	}
	if got, err := merge.Over(a, b, read(t, `{"a":null,"c":1}`), read(t, `{"d":{"e":{"f":"x"}}}`)); err != nil || got.Root().Len() != 3 {
		t.Errorf("too long no more: %v", err)
	}
	if got, err := merge.Over(a, read(t, `{"a":{"x":1}}`), a, b, read(t, `{"a":{"x":{"y":1}}}`), b, read(t, "1"), b, a); err != nil || got.Root().Len() != 2 {
		t.Errorf("what goes is no part any more: %v", err)
	}
}

// TestListsStay: P18.8.
func TestListsStay(t *testing.T) {
	got, err := merge.Merge(read(t, `{"l":[{"a":null,"b":1}],"k":[{"c":null}]}`), read(t, `{"l":[{"b":null}]}`))
	if err != nil || form(got) != `{"k":[{"c":null}],"l":[{"b":null}]}` {
		t.Errorf("Merge: %s, %v", form(got), err)
	}
	tree, l, err := merge.Three(read(t, `{"l":[{"a":1},{"b":1}]}`), read(t, `{"l":[{"a":2},{"b":1}]}`), read(t, `{"l":[{"a":1},{"b":2}]}`))
	if err != nil || form(tree) != `{"l":[{"a":2},{"b":1}]}` || !slices.Equal(l, []string{"/l"}) {
		t.Errorf("Three: %s, %q, %v", form(tree), l, err)
	}
}
