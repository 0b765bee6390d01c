package diff_test

import (
	"math/rand"
	"reflect"
	"slices"
	"strconv"
	"strings"
	"testing"
	"unicode/utf16"

	"affidavit/api"
	"affidavit/canon"
	"affidavit/diff"
	"affidavit/node"
	"affidavit/parse"
	"affidavit/patch"
	"affidavit/pointer"
)

func read(t testing.TB, s string) *node.Tree {
	t.Helper()
	tree, err := parse.Read([]byte(s), api.MaxDepth)
	if err != nil {
		t.Fatalf("%.80s: %v", s, err)
	}
	return tree
}

func form(tree *node.Tree) string {
	b, _ := canon.Bytes(tree)
	return string(b)
}

// shown are operations, each as its kind, its path, and the form of its value.
func shown(t testing.TB, ops []api.Op) []string {
	t.Helper()
	var l []string
	for _, o := range ops {
		s := []string{"", "add", "remove", "replace", "move", "copy", "test"}[o.Kind] + " " + o.Path
		if o.Kind != api.OpRemove {
			tree, err := node.Build(o.Steps)
			if err != nil {
				t.Fatal(err)
			}
			s += " " + form(tree)
		}
		if o.From != "" || o.Kind == api.OpRemove && len(o.Steps) != 0 {
			t.Fatalf("fields that are not used: %v", o)
		}
		l = append(l, s)
	}
	return l
}

func TestExamples(t *testing.T) {
	for _, c := range []struct {
		a, b string
		want []string
	}{
		{`{"a":1,"b":2,"d":[]}`, `{"b":3,"c":4,"d":[]}`, []string{"remove /a", "replace /b 3", "add /c 4"}}, {"[1,2,3,4]", "[1,3,4,5]", []string{"remove /1", "add /3 5"}}, {"[1,2,3]", "[1,9,8,3]", []string{"replace /1 9", "add /2 8"}}, {"[[1],[2]]", "[[1,1],[2]]", []string{"add /0/1 1"}}, {"[1,2]", "[2,1]", []string{"remove /0", "add /1 1"}}, {"1", `"x"`, []string{`replace  "x"`}}, {"1", "1.0", nil},
		{"[]", "[1,2]", []string{"add /0 1", "add /1 2"}}, {"[1,2]", "[]", []string{"remove /0", "remove /0"}}, {"{}", "[]", []string{"replace  []"}}, {`{"a~/":{"x":1}}`, `{"a~/":{"x":2}}`, []string{"replace /a~0~1/x 2"}}, {`{"\uff61":1,"😀":1}`, "{}", []string{"remove /😀", "remove /\uff61"}}, {"[1,2,3,4,5]", "[1,5]", []string{"remove /1", "remove /1", "remove /1"}}, {"[1,[2,3],4]", "[1,[2],4]", []string{"remove /1/1"}}, {`[{"a":1},{"b":2}]`, `[{"a":2},{"b":2},3]`, []string{"replace /0/a 2", "add /2 3"}}, {"[1,2,1]", "[1]", []string{"remove /1", "remove /1"}}, {"[0,1,0]", "[0,0]", []string{"remove /1"}}, {"[9,1,8,2,7]", "[1,6,2]", []string{"remove /0", "replace /1 6", "remove /3"}},
	} {
		ops, err := diff.Ops(read(t, c.a), read(t, c.b))
		if err != nil || !slices.Equal(shown(t, ops), c.want) {
			t.Errorf("Ops(%s, %s): %q, %v, want %q", c.a, c.b, shown(t, ops), err, c.want)
		}
		var paths []string
		for _, o := range ops {
			paths = append(paths, o.Path)
		}
		if apart, err := diff.Apart(read(t, c.a), read(t, c.b)); err != nil || !slices.Equal(apart, paths) {
			t.Errorf("Apart(%s, %s): %q, %v", c.a, c.b, apart, err)
		}
	}
	x := read(t, "1")
	for _, l := range [][2]*node.Tree{{nil, x}, {x, nil}, {nil, nil}} {
		ops, err := diff.Ops(l[0], l[1])
		paths, err2 := diff.Apart(l[0], l[1])
		if ops != nil || err != api.ErrNil || paths != nil || err2 != api.ErrNil {
			t.Errorf("of nil: %v, %v", err, err2)
		}
	}
}

func TestKeptExamples(t *testing.T) {
	for _, c := range []struct {
		a, b string
		want [][2]int
		err  error
	}{
		{"[1,2]", "[2,1]", [][2]int{{1, 0}}, nil}, {"[]", "[1]", nil, nil}, {"[1,2,3]", "[1,2,3]", [][2]int{{0, 0}, {1, 1}, {2, 2}}, nil}, {"[1,2,3,4]", "[1,3,4,5]", [][2]int{{0, 0}, {2, 1}, {3, 2}}, nil}, {"[1,1,1]", "[1]", [][2]int{{0, 0}}, nil}, {"[2,1]", "[1]", [][2]int{{1, 0}}, nil}, {"[0,2,3,9]", "[0,3,2,9]", [][2]int{{0, 0}, {2, 1}, {3, 3}}, nil}, {`[[1.0],{"a":null}]`, `[{"a":null}]`, [][2]int{{1, 0}}, nil}, {"[1]", "{}", nil, api.ErrSort}, {"1", "[1]", nil, api.ErrSort}, {"null", "{}", nil, api.ErrSort},
	} {
		got, err := diff.Kept(read(t, c.a).Root(), read(t, c.b).Root())
		if err != c.err || !slices.Equal(got, c.want) {
			t.Errorf("Kept(%s, %s): %v, %v", c.a, c.b, got, err)
		}
	}
	x := read(t, "{}").Root()
	for _, l := range [][2]node.Ref{{{}, x}, {x, {}}, {{}, {}}} {
		if got, err := diff.Kept(l[0], l[1]); got != nil || err != api.ErrNil {
			t.Errorf("of none: %v", err)
		}
	}
}

// kept is what two lists keep, by the words of the document.
func kept(x, y api.List) [][2]int {
	same := func(i, j int) bool { return reflect.DeepEqual(x[i], y[j]) }
	head := 0
	for head < len(x) && head < len(y) && same(head, head) {
		head++
	}
	tail := 0
	for head+tail < len(x) && head+tail < len(y) && same(len(x)-1-tail, len(y)-1-tail) {
		tail++
	}
	m, n := len(x)-tail, len(y)-tail
	memo := map[[2]int]int{}
	var l func(i, j int) int
	l = func(i, j int) int {
		if i >= m || j >= n {
			return 0
		}
		if _, ok := memo[[2]int{i, j}]; !ok {
			memo[[2]int{i, j}] = max(l(i+1, j), l(i, j+1))
			if same(i, j) {
				memo[[2]int{i, j}] = 1 + l(i+1, j+1)
			}
		}
		return memo[[2]int{i, j}]
	}
	var pairs [][2]int
	for i := range head {
		pairs = append(pairs, [2]int{i, i})
	}
	for i, j := head, head; i < m && j < n; {
		switch {
		case same(i, j):
			pairs = append(pairs, [2]int{i, j})
			i, j = i+1, j+1
		case l(i+1, j) >= l(i, j+1):
			i++
		default:
			j++
		}
	}
	for k := range tail {
		pairs = append(pairs, [2]int{m + k, n + k})
	}
	return pairs
}

// most is the greatest number of pairs that a row can have.
func most(x, y api.List) int {
	table := make([][]int, len(x)+1)
	for i := range table {
		table[i] = make([]int, len(y)+1)
	}
	for i, v := range x {
		for j, w := range y {
			table[i+1][j+1] = max(table[i][j+1], table[i+1][j])
			if reflect.DeepEqual(v, w) {
				table[i+1][j+1] = max(table[i+1][j+1], table[i][j]+1)
			}
		}
	}
	return table[len(x)][len(y)]
}

func get(v api.Value, key string) api.Value {
	for _, m := range v.(api.Object) {
		if m.Key == key {
			return m.Value
		}
	}
	return nil
}

func below(p, token string) string {
	s, _ := pointer.Down(p, token)
	return s
}

func told(v api.Value) string {
	switch x := v.(type) {
	case api.List:
		var l []string
		for _, u := range x {
			l = append(l, told(u))
		}
		return "[" + strings.Join(l, ",") + "]"
	case api.Object:
		var l []string
		for _, m := range x {
			l = append(l, strconv.Quote(m.Key)+":"+told(m.Value))
		}
		return "{" + strings.Join(l, ",") + "}"
	case api.Text:
		return strconv.Quote(string(x))
	case api.Number:
		return strconv.FormatFloat(float64(x), 'g', -1, 64)
	}
	return "null"
}

// between are the operations by the words of the document, shown.
func between(a, b api.Value, p string) []string {
	if reflect.DeepEqual(a, b) {
		return nil
	}
	var out []string
	x, ok := a.(api.Object)
	y, ok2 := b.(api.Object)
	if ok && ok2 {
		var all []string
		for _, m := range slices.Concat(x, y) {
			all = append(all, m.Key)
		}
		slices.SortFunc(all, func(k, l string) int {
			return slices.Compare(utf16.Encode([]rune(k)), utf16.Encode([]rune(l)))
		})
		for _, key := range slices.Compact(all) {
			v, w := get(a, key), get(b, key)
			switch {
			case w == nil:
				out = append(out, "remove "+below(p, key))
			case v == nil:
				out = append(out, "add "+below(p, key)+" "+told(w))
			default:
				out = append(out, between(v, w, below(p, key))...)
			}
		}
		return out
	}
	l, ok := a.(api.List)
	m, ok2 := b.(api.List)
	if !ok || !ok2 {
		return []string{"replace " + p + " " + told(b)}
	}
	i, j, k := 0, 0, 0
	for _, pair := range append(kept(l, m), [2]int{len(l), len(m)}) {
		r, s := pair[0]-i, pair[1]-j
		for n := range max(r, s) {
			at := below(p, strconv.Itoa(k))
			switch {
			case n < r && n < s:
				out = append(out, between(l[i+n], m[j+n], at)...)
				k++
			case n < r:
				out = append(out, "remove "+at)
			default:
				out = append(out, "add "+at+" "+told(m[j+n]))
				k++
			}
		}
		i, j, k = pair[0]+1, pair[1]+1, k+1
	}
	return out
}

// random is a value, as a document.
func random(r *rand.Rand, depth int) string {
	k := r.Intn(7)
	if depth == 1 {
		k = r.Intn(3)
	}
	var l []string
	switch {
	case k > 4:
		for range r.Intn(6) {
			l = append(l, random(r, depth-1))
		}
		return "[" + strings.Join(l, ",") + "]"
	case k > 2:
		for _, key := range []string{"a", "b", "c/~", "\uff61", "😀"} {
			if r.Intn(2) == 0 {
				l = append(l, strconv.Quote(key)+":"+random(r, depth-1))
			}
		}
		return "{" + strings.Join(l, ",") + "}"
	}
	return []string{"null", "1", `"x"`}[k]
}

// near is a value, somewhat changed.
func near(r *rand.Rand, v api.Value) api.Value {
	if r.Intn(8) == 0 {
		return api.Number(r.Intn(4))
	}
	switch x := v.(type) {
	case api.List:
		out := api.List{}
		for _, u := range x {
			if r.Intn(6) > 0 {
				out = append(out, near(r, u))
			}
			if r.Intn(6) == 0 {
				out = append(out, api.Number(r.Intn(3)))
			}
		}
		return out
	case api.Object:
		out := api.Object{}
		for _, m := range x {
			if r.Intn(6) > 0 {
				out = append(out, api.Member{Key: m.Key, Value: near(r, m.Value)})
			}
		}
		return out
	}
	return v
}

func TestOpsAgainstReference(t *testing.T) {
	r := rand.New(rand.NewSource(1))
	for range 8000 {
		a := read(t, random(r, 5))
		b := read(t, random(r, 5))
		if r.Intn(4) > 0 {
			b = read(t, told(near(r, a.Value())))
		}
		ops, err := diff.Ops(a, b)
		want := between(a.Value(), b.Value(), "")
		if err != nil || !slices.Equal(shown(t, ops), want) {
			t.Fatalf("Ops(%s, %s): %q, %v, want %q", form(a), form(b), shown(t, ops), err, want)
		}
		got, err := patch.Apply(a, ops)
		if err != nil || !got.Same(b) || (len(ops) == 0) != a.Same(b) {
			t.Fatalf("Ops(%s, %s): %q lead to %s, %v", form(a), form(b), shown(t, ops), form(got), err)
		}
		for _, o := range ops {
			if o.Kind != api.OpAdd && o.Kind != api.OpRemove && o.Kind != api.OpReplace {
				t.Fatalf("Ops(%s, %s): %v", form(a), form(b), o)
			}
		}
		checkKept(t, a, b)
	}
}

func checkKept(t *testing.T, a, b *node.Tree) {
	t.Helper()
	x, ok := a.Value().(api.List)
	y, ok2 := b.Value().(api.List)
	if !ok || !ok2 {
		return
	}
	got, err := diff.Kept(a.Root(), b.Root())
	if err != nil || !slices.Equal(got, kept(x, y)) || len(got) != most(x, y) {
		t.Fatalf("Kept(%s, %s): %v, %v", form(a), form(b), got, err)
	}
	last := [2]int{-1, -1}
	for _, pair := range got {
		if pair[0] <= last[0] || pair[1] <= last[1] || !reflect.DeepEqual(x[pair[0]], y[pair[1]]) {
			t.Fatalf("Kept(%s, %s): %v", form(a), form(b), got)
		}
		last = pair
	}
	if all, _ := diff.Kept(a.Root(), a.Root()); len(all) != len(x) {
		t.Fatalf("Kept(%s) of itself: %v", form(a), all)
	}
}

// numbers is the list of the numbers from a to b, that one not.
func numbers(a, b int) string {
	var l []string
	for i := a; i < b; i++ {
		l = append(l, strconv.Itoa(i))
	}
	return strings.Join(l, ",")
}

func TestTooManyPairs(t *testing.T) {
	// 1024 and 1024 values are looked at; with one more they are not.
	for _, c := range []struct{ m, n, want int }{{1024, 1024, 1}, {1025, 1024, 0}, {1024, 1025, 0}, {65000, 16, 1}, {65000, 17, 0}, {2048, 512, 1}, {2049, 512, 0}} {
		x := "[7," + numbers(1_000_000, 1_000_000+c.m-1) + ",9]"
		y := "[" + numbers(2_000_000, 2_000_000+c.n-1) + ",7,9]"
		got, err := diff.Kept(read(t, x).Root(), read(t, y).Root())
		if err != nil || len(got) != c.want+1 || got[len(got)-1] != [2]int{c.m, c.n} {
			t.Errorf("%d and %d: %d, %v", c.m, c.n, len(got), err)
		}
		if c.want == 1 && got[0] != [2]int{0, c.n - 1} {
			t.Errorf("%d and %d: %v", c.m, c.n, got[0])
		}
	}
	long := "[" + numbers(0, 60000) + "]"
	other := "[" + numbers(0, 30000) + ",-1," + numbers(30000, 59999) + "]"
	got, err := diff.Kept(read(t, long).Root(), read(t, other).Root())
	if err != nil || len(got) != 30000 {
		t.Errorf("the beginning of long lists: %d, %v", len(got), err)
	}
	got, err = diff.Kept(read(t, long).Root(), read(t, "["+numbers(0, 30000)+",-1,-2,"+numbers(30002, 60000)+"]").Root())
	if err != nil || len(got) != 59998 {
		t.Errorf("the beginning and the end of long lists: %d, %v", len(got), err)
	}
}

func TestReplacesTheWhole(t *testing.T) {
	wide := func(head string, n int) string {
		var l []string
		for i := range n {
			l = append(l, `"`+head+strconv.Itoa(i)+`":1`)
		}
		return "{" + strings.Join(l, ",") + "}"
	}
	a, b := read(t, wide("a", 32768)), read(t, wide("b", 32768))
	if ops, err := diff.Ops(a, b); err != nil || len(ops) != api.MaxSteps {
		t.Errorf("as many as may be: %d, %v", len(ops), err)
	}
	b = read(t, wide("b", 32769))
	ops, err := diff.Ops(a, b)
	if err != nil || len(ops) != 1 || ops[0].Kind != api.OpReplace || ops[0].Path != "" || len(ops[0].Steps) != 32770 {
		t.Errorf("too many: %d, %v", len(ops), err)
	}
	if paths, err := diff.Apart(a, b); err != nil || len(paths) != 32768+32769 {
		t.Errorf("Apart of many: %d, %v", len(paths), err)
	}
	// The keys that come stand ahead of those that go, so on the way there are too many values.
	ops, err = diff.Ops(read(t, wide("z", 32768)), read(t, wide("a", 32768)))
	if err != nil || len(ops) != 1 || ops[0].Path != "" {
		t.Errorf("too great on the way: %d, %v", len(ops), err)
	}
	if got, err := patch.Apply(read(t, wide("z", 32768)), ops); err != nil || !got.Same(read(t, wide("a", 32768))) {
		t.Errorf("too great on the way: %v", err)
	}
}

// TestLeftAlone: P20.6.
func TestLeftAlone(t *testing.T) {
	r := rand.New(rand.NewSource(2))
	for range 2000 {
		same := random(r, 3)
		a := read(t, `{"a":`+random(r, 3)+`,"same":`+same+`,"z":`+random(r, 2)+"}")
		b := read(t, `{"a":`+random(r, 3)+`,"same":`+same+`,"y":`+random(r, 2)+"}")
		paths, err := diff.Apart(a, b)
		if err != nil || slices.ContainsFunc(paths, func(p string) bool { in, _ := pointer.Within("/same", p); return in || p == "" }) {
			t.Fatalf("Apart(%s, %s): %q, %v", form(a), form(b), paths, err)
		}
	}
}

func TestMemory(t *testing.T) {
	a, b := read(t, "[1]"), read(t, `[1,{"k":[2]}]`)
	ops, _ := diff.Ops(a, b)
	ops[0].Steps[2].Keys[0] = "spoilt"
	if form(b) != `[1,{"k":[2]}]` {
		t.Error("a tree has changed")
	}
	if again, _ := diff.Ops(a, b); shown(t, again)[0] != `add /1 {"k":[2]}` {
		t.Errorf("Ops are shared: %q", shown(t, again))
	}
}
