package order_test

import (
	"math"
	"math/rand"
	"reflect"
	"slices"
	"strings"
	"testing"
	"unicode/utf16"

	"affidavit/api"
	"affidavit/node"
	"affidavit/order"
	"affidavit/parse"
)

func ref(t testing.TB, s string) node.Ref {
	t.Helper()
	if s == "" {
		return node.Ref{}
	}
	tree, err := parse.Read([]byte(s), api.MaxDepth)
	if err != nil {
		t.Fatalf("%s: %v", s, err)
	}
	return tree.Root()
}

func refs(t testing.TB, l ...string) []node.Ref {
	t.Helper()
	var row []node.Ref
	for _, s := range l {
		row = append(row, ref(t, s))
	}
	return row
}

// rising are documents in the order of values; the empty text stands for none.
var rising = []string{
	"", "null", "false", "true", "-1.7976931348623157e308", "-1", "-0.5", "0", "5e-324", "1", "1.5", "9", "1e300",
	`""`, `"\u0000"`, `"a"`, `"aa"`, `"ab"`, `"b"`, `"é"`, `"\ud7ff"`, `"\ud83d\ude00"`, `"\ue000"`, `"\uff61"`,
	"[]", "[null]", "[null,1]", "[false]", "[1]", "[1,2]", "[2]", `["a"]`, "[[]]", "[[],null]", "[[1]]", "[{}]",
	"{}", `{"":[]}`, `{"a":1}`, `{"a":1,"b":0}`, `{"a":1,"b":1}`, `{"a":1,"c":0}`, `{"a":2}`, `{"a":2,"b":0}`, `{"a":"x"}`, `{"b":1}`, `{"\ud83d\ude00":0}`, `{"\uff61":0}`, `{"\uff61":{}}`,
}

func TestCompare(t *testing.T) {
	for i, a := range rising {
		for k, b := range rising {
			want := 0
			if i < k {
				want = -1
			} else if i > k {
				want = 1
			}
			if c := order.Compare(ref(t, a), ref(t, b)); c != want {
				t.Errorf("Compare(%s, %s): %d", a, b, c)
			}
		}
	}
	if order.Compare(ref(t, `{"b":1,"a":[1e0]}`), ref(t, `{"a":[1],"b":1.0}`)) != 0 || order.Compare(ref(t, "-0"), ref(t, "0")) != 0 {
		t.Error("values that are the same are not alike")
	}
}

// told reckons the order from what is told.
func told(a, b api.Value) int {
	rank := func(v api.Value) int {
		switch x := v.(type) {
		case api.Null:
			return 1
		case api.Flag:
			if !x {
				return 2
			}
			return 3
		case api.Number:
			return 4
		case api.Text:
			return 5
		case api.List:
			return 6
		case api.Object:
			return 7
		}
		return 0
	}
	if c := rank(a) - rank(b); c != 0 {
		return c / max(c, -c)
	}
	units := func(s, u string) int {
		return slices.Compare(utf16.Encode([]rune(s)), utf16.Encode([]rune(u)))
	}
	switch x := a.(type) {
	case api.Number:
		return int(math.Copysign(1, float64(x-b.(api.Number)))) * map[bool]int{true: 1}[x != b.(api.Number)]
	case api.Text:
		return units(string(x), string(b.(api.Text)))
	case api.List:
		return slices.CompareFunc(x, b.(api.List), told)
	case api.Object:
		return slices.CompareFunc(x, b.(api.Object), func(m, n api.Member) int {
			if c := units(m.Key, n.Key); c != 0 {
				return c
			}
			return told(m.Value, n.Value)
		})
	}
	return 0
}

// document is a random document; few are unlike.
func document(r *rand.Rand, depth int) string {
	k := r.Intn(7)
	if depth == 1 {
		k = r.Intn(5)
	}
	switch k {
	case 5:
		var l []string
		for range r.Intn(3) {
			l = append(l, document(r, depth-1))
		}
		return "[" + strings.Join(l, ",") + "]"
	case 6:
		var l []string
		for _, key := range []string{`"a":`, `"\uff61":`, `"\ud83d\ude00":`} {
			if r.Intn(2) == 0 {
				l = append(l, key+document(r, depth-1))
			}
		}
		return "{" + strings.Join(l, ",") + "}"
	}
	return []string{"null", "true", "false", "0", "1", `"a"`, `"ab"`, `"\uff61"`, `"\ud83d\ude00"`}[r.Intn(9)]
}

func row(t *testing.T, r *rand.Rand, n int) []node.Ref {
	var l []node.Ref
	for range r.Intn(n + 1) {
		if r.Intn(10) == 0 {
			l = append(l, node.Ref{})
			continue
		}
		l = append(l, ref(t, document(r, 3)))
	}
	return l
}

func TestCompareIsAnOrder(t *testing.T) {
	r := rand.New(rand.NewSource(1))
	for range 60 {
		l := row(t, r, 25)
		for _, a := range l {
			for _, b := range l {
				c := order.Compare(a, b)
				if c != told(a.Value(), b.Value()) || c != -order.Compare(b, a) || (c == 0) != a.Same(b) {
					t.Fatalf("Compare(%v, %v): %d", a.Value(), b.Value(), c)
				}
				for _, d := range l {
					if c <= 0 && order.Compare(b, d) <= 0 && order.Compare(a, d) > 0 {
						t.Fatalf("%v, %v, %v", a.Value(), b.Value(), d.Value())
					}
				}
			}
		}
	}
}

// identical tells whether two rows name the very same values: each of a document of its own.
func identical(a, b []node.Ref) bool {
	return slices.EqualFunc(a, b, func(x, y node.Ref) bool { return one(x, y) && reflect.DeepEqual(x.Value(), y.Value()) })
}

// one tells whether two refs are one, as far as refs can be held against each other so.
func one(x, y any) (is bool) {
	defer func() {
		if recover() != nil {
			is = true
		}
	}()
	return x == y
}

// marked are documents with a mark at which those that are alike can be told apart: lists are held by their identity.
func marked(t *testing.T, r *rand.Rand, n int) []node.Ref {
	var l []node.Ref
	for range r.Intn(n + 1) {
		l = append(l, ref(t, []string{"[1]", "[2]", "[]", "{}", "[1.0]", "[10e-1]", `{"a":1}`, `{"a":1.0}`}[r.Intn(8)]))
	}
	return l
}

func TestSortAndUnique(t *testing.T) {
	r := rand.New(rand.NewSource(2))
	for range 500 {
		l := marked(t, r, 40)
		before := slices.Clone(l)
		want := slices.Clone(l)
		slices.SortStableFunc(want, func(a, b node.Ref) int { return told(a.Value(), b.Value()) })
		got, err := order.Sort(l)
		if err != nil || !identical(got, want) || !identical(l, before) {
			t.Fatalf("Sort of %d: %v", len(l), err)
		}
		got, err = order.Unique(l)
		want = slices.CompactFunc(want, func(a, b node.Ref) bool { return a.Same(b) })
		if err != nil || !identical(got, want) || !identical(l, before) {
			t.Fatalf("Unique of %d: %v", len(l), err)
		}
		n := r.Intn(45)
		sorted, _ := order.Sort(l)
		first, err := order.First(l, n)
		if err != nil || !identical(first, sorted[:min(n, len(sorted))]) {
			t.Fatalf("First of %d: %v", n, err)
		}
	}
	l := refs(t, "2", "null", `"a"`, "1")
	if got, _ := order.Sort(l); !identical(got, []node.Ref{l[1], l[3], l[0], l[2]}) {
		t.Error("Sort")
	}
	for _, n := range []int{-1, math.MinInt} {
		if got, err := order.First(l, n); got != nil || err != api.ErrArg {
			t.Errorf("First of %d: %v", n, err)
		}
	}
	if got, err := order.First(l, math.MaxInt); len(got) != 4 || err != nil {
		t.Errorf("First of all: %v", err)
	}
	if got, err := order.Sort(nil); len(got) != 0 || err != nil {
		t.Errorf("Sort of nothing: %v", err)
	}
}

func TestJoin(t *testing.T) {
	a, b := refs(t, "1", "3"), refs(t, "2", "3")
	got, err := order.Join(a, b)
	if err != nil || len(got) != 4 || !identical(got, []node.Ref{a[0], b[0], a[1], b[1]}) {
		t.Errorf("Join: %v", err)
	}
	if got, err := order.Join(refs(t, "2", "1")); got != nil || err != api.ErrArg {
		t.Errorf("Join of a row that falls: %v", err)
	}
	if got, err := order.Join(a, b, refs(t, "1", "2", "1")); got != nil || err != api.ErrArg {
		t.Errorf("Join of a row that falls: %v", err)
	}
	if got, err := order.Join(); len(got) != 0 || err != nil {
		t.Errorf("Join of nothing: %v", err)
	}
	r := rand.New(rand.NewSource(3))
	for range 500 {
		var rows [][]node.Ref
		var all []node.Ref
		whole := marked(t, r, 60)
		for len(whole) > 0 {
			n := r.Intn(len(whole) + 1)
			sorted, _ := order.Sort(whole[:n])
			rows, all = append(rows, sorted), append(all, whole[:n]...)
			whole = whole[n:]
		}
		want, _ := order.Sort(all)
		got, err := order.Join(rows...)
		if err != nil || !identical(got, want) {
			t.Fatalf("Join of %d rows: %v", len(rows), err)
		}
	}
}

func TestBothAndLess(t *testing.T) {
	r := rand.New(rand.NewSource(4))
	for range 1000 {
		a, _ := order.Sort(marked(t, r, 12))
		b, _ := order.Sort(row(t, r, 6))
		if r.Intn(2) == 0 {
			b, _ = order.Sort(marked(t, r, 4))
		}
		var both, less []node.Ref
		for _, x := range a {
			if slices.ContainsFunc(b, func(y node.Ref) bool { return x.Same(y) }) {
				both = append(both, x)
			} else {
				less = append(less, x)
			}
		}
		got, err := order.Both(a, b)
		rest, err2 := order.Less(a, b)
		if err != nil || err2 != nil || !identical(got, both) || !identical(rest, less) {
			t.Fatalf("Both, Less: %v, %v", err, err2)
		}
		if again, err := order.Join(got, rest); err != nil || !identical(again, a) {
			t.Fatalf("Join of Both and Less: %v", err)
		}
	}
	up, down := refs(t, "1", "2"), refs(t, "2", "1")
	for _, f := range []func(a, b []node.Ref) ([]node.Ref, error){order.Both, order.Less} {
		if l, err := f(up, down); l != nil || err != api.ErrArg {
			t.Errorf("b falls: %v", err)
		}
		if l, err := f(down, up); l != nil || err != api.ErrArg {
			t.Errorf("a falls: %v", err)
		}
	}
}

func TestSearchAndGroups(t *testing.T) {
	l := refs(t, "1", "2", "2", "3")
	for s, want := range map[string][2]int{"2": {1, 2}, "0": {0, 0}, "3": {3, 1}, "4": {4, 0}, "2.5": {3, 0}, "": {0, 0}, "[]": {4, 0}} {
		if ahead, alike, err := order.Search(l, ref(t, s)); ahead != want[0] || alike != want[1] || err != nil {
			t.Errorf("Search for %s: %d, %d, %v", s, ahead, alike, err)
		}
	}
	if ahead, alike, err := order.Search(refs(t, "2", "1"), ref(t, "1")); ahead != 0 || alike != 0 || err != api.ErrArg {
		t.Errorf("Search in a row that falls: %v", err)
	}
	if ahead, alike, err := order.Search(nil, ref(t, "1")); ahead != 0 || alike != 0 || err != nil {
		t.Errorf("Search in nothing: %v", err)
	}
	var got [][2]int
	for from, to := range order.Groups(refs(t, "1", "2", "2")) {
		got = append(got, [2]int{from, to})
	}
	if !slices.Equal(got, [][2]int{{0, 1}, {1, 3}}) {
		t.Errorf("Groups: %v", got)
	}
	for range order.Groups(refs(t, "2", "1")) {
		t.Error("Groups of a row that falls")
	}
	for range order.Groups(nil) {
		t.Error("Groups of nothing")
	}
	r := rand.New(rand.NewSource(5))
	for range 300 {
		l, _ := order.Sort(row(t, r, 20))
		groups := order.Groups(l)
		for range 2 {
			end := 0
			for from, to := range groups {
				if from != end || to <= from || from > 0 && l[from-1].Same(l[from]) {
					t.Fatalf("a group from %d to %d behind %d", from, to, end)
				}
				for i := from; i < to; i++ {
					if !l[i].Same(l[from]) {
						t.Fatalf("a group from %d to %d", from, to)
					}
				}
				if ahead, alike, _ := order.Search(l, l[from]); ahead != from || alike != to-from {
					t.Fatalf("Search: %d, %d", ahead, alike)
				}
				end = to
			}
			if end != len(l) {
				t.Fatalf("Groups end at %d of %d", end, len(l))
			}
		}
		for range groups {
			break
		}
	}
}

func TestLimits(t *testing.T) {
	one := ref(t, "1")
	most := slices.Repeat([]node.Ref{one}, api.MaxSteps)
	more := append(slices.Clone(most), ref(t, "0"))
	if l, err := order.Sort(most); len(l) != api.MaxSteps || err != nil {
		t.Errorf("Sort of many: %v", err)
	}
	if l, err := order.Join(most[:1], most[1:]); len(l) != api.MaxSteps || err != nil {
		t.Errorf("Join of many: %v", err)
	}
	if n, m, err := order.Search(most, one); n != 0 || m != api.MaxSteps || err != nil {
		t.Errorf("Search in many: %v", err)
	}
	groups := 0
	for from, to := range order.Groups(most) {
		groups += to - from
	}
	if groups != api.MaxSteps {
		t.Errorf("Groups of many: %d", groups)
	}
	_, err1 := order.Sort(more)
	_, err2 := order.Unique(more)
	_, err3 := order.Join(most, more[api.MaxSteps:])
	_, err4 := order.Both(more, nil)
	_, err5 := order.Less(most, refs(t, "2"))
	_, _, err6 := order.Search(more, one)
	_, err7 := order.First(more, -1)
	for i, err := range []error{err1, err2, err3, err4, err5, err6, err7} {
		if err != api.ErrLong {
			t.Errorf("call %d: %v", i, err)
		}
	}
	for range order.Groups(append(slices.Clone(most), one)) {
		t.Error("Groups of too many")
	}
}

func TestMemory(t *testing.T) {
	l := refs(t, "1", "2", "3")
	before := slices.Clone(l)
	groups := order.Groups(l)
	for _, f := range []func() []node.Ref{
		func() []node.Ref { a, _ := order.Sort(l); return a }, func() []node.Ref { a, _ := order.Unique(l); return a }, func() []node.Ref { a, _ := order.Join(l); return a }, func() []node.Ref { a, _ := order.Join(l, nil); return a },
		func() []node.Ref { a, _ := order.Both(l, l); return a }, func() []node.Ref { a, _ := order.Less(l, nil); return a }, func() []node.Ref { a, _ := order.First(l[:3:3], 2); return a }, func() []node.Ref { a, _ := order.Sort(l[:1]); return a },
	} {
		a := f()
		for i := range a[:cap(a)] {
			a[:cap(a)][i] = node.Ref{}
		}
		if !identical(l, before) {
			t.Fatal("a row is shared")
		}
	}
	for i := range l {
		l[i] = node.Ref{}
	}
	n := 0
	for range groups {
		n++
	}
	if n != 3 {
		t.Error("a row is kept")
	}
}
