package node_test

import (
	"maps"
	"math"
	"math/rand"
	"reflect"
	"slices"
	"strings"
	"sync"
	"testing"
	"unicode/utf16"
	"unicode/utf8"

	"affidavit/api"
	"affidavit/node"
)

var (
	stepNull = api.Step{Sort: api.SortNull}
	stepTrue = api.Step{Sort: api.SortFlag, Flag: true}
)

func stepNumber(x float64) api.Step {
	return api.Step{Sort: api.SortNumber, Bits: math.Float64bits(x)}
}
func stepText(s string) api.Step         { return api.Step{Sort: api.SortText, Text: s} }
func stepList(n int) api.Step            { return api.Step{Sort: api.SortList, Count: n} }
func stepObject(keys ...string) api.Step { return api.Step{Sort: api.SortObject, Keys: keys} }

func build(t *testing.T, l ...api.Step) *node.Tree {
	t.Helper()
	tree, err := node.Build(l)
	if err != nil {
		t.Fatalf("Build: %v", err)
	}
	return tree
}

// value is a random value, at most so deep.
func value(r *rand.Rand, depth int) api.Value {
	k := r.Intn(8)
	if depth == 1 {
		k = r.Intn(6)
	}
	switch k {
	case 0:
		return api.Null{}
	case 1:
		return api.Flag(r.Intn(2) == 0)
	case 2, 3:
		return api.Number([]float64{0, 1, -1, 0.5, 1e300, 5e-324, -2.5e-7, float64(r.Intn(100))}[r.Intn(8)])
	case 4, 5:
		return api.Text(word(r))
	case 6:
		l := api.List{}
		for range r.Intn(4) {
			l = append(l, value(r, depth-1))
		}
		return l
	}
	members := map[string]api.Value{}
	for range r.Intn(4) {
		members[word(r)] = value(r, depth-1)
	}
	o := api.Object{}
	for _, key := range slices.SortedFunc(maps.Keys(members), units) {
		o = append(o, api.Member{Key: key, Value: members[key]})
	}
	return o
}

func word(r *rand.Rand) string {
	words := []string{"", "a", "b", "ab", "é", "\uFB33", "\U0001F600", "\uE000", "\x00", "z"}
	return words[r.Intn(len(words))] + words[r.Intn(len(words))]
}

// units is unit order.
func units(a, b string) int {
	return slices.Compare(utf16.Encode([]rune(a)), utf16.Encode([]rune(b)))
}

// steps are the steps of a value; of its objects' members in any order, if r is there.
func steps(v api.Value, r *rand.Rand) []api.Step {
	switch x := v.(type) {
	case api.Flag:
		return []api.Step{{Sort: api.SortFlag, Flag: bool(x)}}
	case api.Number:
		return []api.Step{stepNumber(float64(x))}
	case api.Text:
		return []api.Step{stepText(string(x))}
	case api.List:
		var l []api.Step
		for _, inner := range x {
			l = append(l, steps(inner, r)...)
		}
		return append(l, stepList(len(x)))
	case api.Object:
		places := make([]int, len(x))
		for i := range places {
			places[i] = i
		}
		if r != nil {
			r.Shuffle(len(places), func(i, j int) { places[i], places[j] = places[j], places[i] })
		}
		var l []api.Step
		var keys []string
		for _, i := range places {
			l = append(l, steps(x[i].Value, r)...)
			keys = append(keys, x[i].Key)
		}
		return append(l, stepObject(keys...))
	}
	return []api.Step{stepNull}
}

// alike tells whether two rows of steps are alike; lists without elements are one.
func alike(a, b []api.Step) bool {
	return slices.EqualFunc(a, b, func(s, u api.Step) bool {
		return s.Sort == u.Sort && s.Flag == u.Flag && s.Bits == u.Bits && s.Text == u.Text && s.Count == u.Count && slices.Equal(s.Keys, u.Keys)
	})
}

// extent is how great a value is.
func extent(v api.Value) (nodes, bytes, depth int) {
	var inner []api.Value
	switch x := v.(type) {
	case api.Text:
		return 1, len(x), 1
	case api.List:
		inner = x
	case api.Object:
		for _, m := range x {
			bytes += len(m.Key)
			inner = append(inner, m.Value)
		}
	}
	nodes = 1
	for _, v := range inner {
		n, b, d := extent(v)
		nodes, bytes, depth = nodes+n, bytes+b, max(depth, d)
	}
	return nodes, bytes, depth + 1
}

func TestBuildExamples(t *testing.T) {
	for i, c := range []struct {
		l    []api.Step
		want api.Value
	}{
		{[]api.Step{stepNull}, api.Null{}}, {[]api.Step{stepNumber(1), stepText("x"), stepList(2)}, api.List{api.Number(1), api.Text("x")}},
		{[]api.Step{stepTrue, stepNull, stepObject("b", "a")}, api.Object{{Key: "a", Value: api.Null{}}, {Key: "b", Value: api.Flag(true)}}},
		{[]api.Step{stepList(0)}, api.List{}}, {[]api.Step{stepObject()}, api.Object{}}, {[]api.Step{stepText("")}, api.Text("")}, {[]api.Step{{Sort: api.SortFlag}}, api.Flag(false)}, {[]api.Step{{Sort: api.SortNull, Keys: []string{}}}, api.Null{}},
		{[]api.Step{stepNumber(math.Copysign(0, -1))}, api.Number(0)}, {[]api.Step{stepNull, stepTrue, stepNull, stepObject("\U0001F600", "\uFB33", "a")}, api.Object{{Key: "a", Value: api.Null{}}, {Key: "\U0001F600", Value: api.Null{}}, {Key: "\uFB33", Value: api.Flag(true)}}},
	} {
		tree, err := node.Build(c.l)
		if err != nil || !reflect.DeepEqual(tree.Value(), c.want) {
			t.Errorf("case %d: %#v, %v", i, tree.Value(), err)
		}
	}
	if x, ok := build(t, stepNumber(math.Copysign(0, -1))).Root().Number(); !ok || math.Signbit(x) {
		t.Errorf("minus nought: %v, %v", x, ok)
	}
	if s := build(t, stepNumber(math.Copysign(0, -1))).Steps(); s[0].Bits != 0 {
		t.Errorf("minus nought: %v", s)
	}
}

func TestBuildErrors(t *testing.T) {
	spot := func(e api.Errno, at int) error { return api.Spot{Err: e, At: at} }
	bits := func(b uint64) api.Step { return api.Step{Sort: api.SortNumber, Bits: b} }
	for i, c := range []struct {
		l    []api.Step
		want error
	}{
		{nil, spot(api.ErrOne, 0)}, {[]api.Step{stepNull, stepNull}, spot(api.ErrOne, 2)}, {[]api.Step{stepList(1)}, spot(api.ErrFew, 0)}, {[]api.Step{stepNull, stepObject("a", "a")}, spot(api.ErrTwice, 1)}, {[]api.Step{stepNull, stepList(-1)}, spot(api.ErrArg, 1)}, {[]api.Step{{Sort: 7}}, spot(api.ErrArg, 0)}, {[]api.Step{{}}, spot(api.ErrArg, 0)}, {[]api.Step{{Sort: -1}}, spot(api.ErrArg, 0)},
		{[]api.Step{bits(0x7FF << 52)}, spot(api.ErrFloat, 0)}, {[]api.Step{bits(0xFFF << 52)}, spot(api.ErrFloat, 0)}, {[]api.Step{bits(0x7FF8 << 48)}, spot(api.ErrFloat, 0)}, {[]api.Step{stepText("\xFF")}, spot(api.ErrText, 0)}, {[]api.Step{stepObject("\xFF", "\xFF")}, spot(api.ErrText, 0)}, {[]api.Step{stepObject("a", "a", "\xED\xA0\x80")}, spot(api.ErrText, 0)}, {[]api.Step{stepObject("a", "b", "a")}, spot(api.ErrTwice, 0)}, {[]api.Step{stepObject("a")}, spot(api.ErrFew, 0)},
		{[]api.Step{{Sort: api.SortNull, Count: 1}}, spot(api.ErrArg, 0)}, {[]api.Step{{Sort: api.SortNull, Flag: true}}, spot(api.ErrArg, 0)}, {[]api.Step{{Sort: api.SortNull, Bits: 1}}, spot(api.ErrArg, 0)}, {[]api.Step{{Sort: api.SortNull, Text: "x"}}, spot(api.ErrArg, 0)}, {[]api.Step{{Sort: api.SortNull, Keys: []string{""}}}, spot(api.ErrArg, 0)}, {[]api.Step{{Sort: api.SortFlag, Bits: 1}}, spot(api.ErrArg, 0)}, {[]api.Step{{Sort: api.SortNumber, Bits: 0x7FF << 52, Flag: true}}, spot(api.ErrArg, 0)}, {[]api.Step{{Sort: api.SortText, Text: "\xFF", Count: -1}}, spot(api.ErrArg, 0)}, {[]api.Step{{Sort: api.SortList, Text: "x"}}, spot(api.ErrArg, 0)}, {[]api.Step{{Sort: api.SortObject, Keys: []string{"\xFF"}, Count: 1}}, spot(api.ErrArg, 0)}, {[]api.Step{{Sort: api.SortObject, Bits: 1}}, spot(api.ErrArg, 0)}, {[]api.Step{{Sort: api.SortNumber, Text: "1"}}, spot(api.ErrArg, 0)}, {[]api.Step{{Sort: api.SortFlag, Keys: []string{"a"}}}, spot(api.ErrArg, 0)},
		{[]api.Step{stepNull, stepList(math.MaxInt)}, spot(api.ErrFew, 1)}, {[]api.Step{stepList(math.MinInt)}, spot(api.ErrArg, 0)}, {make([]api.Step, api.MaxSteps), spot(api.ErrArg, 0)}, {make([]api.Step, api.MaxSteps+1), api.ErrLong},
	} {
		tree, err := node.Build(c.l)
		if tree != nil || err != c.want {
			t.Errorf("case %d: %v, want %v", i, err, c.want)
		}
	}
}

func TestLimits(t *testing.T) {
	deep := []api.Step{stepNull}
	for range api.MaxDepth - 1 {
		deep = append(deep, stepList(1))
	}
	if _, _, d := build(t, deep...).Size(); d != api.MaxDepth {
		t.Errorf("as deep as may be: %d", d)
	}
	if _, err := node.Build(append(deep, stepObject("x"))); err != (api.Spot{Err: api.ErrLong, At: api.MaxDepth}) {
		t.Errorf("too deep: %v", err)
	}
	wide := slices.Repeat([]api.Step{stepNull}, api.MaxNodes-1)
	if n, _, _ := build(t, append(wide, stepList(api.MaxNodes-1))...).Size(); n != api.MaxNodes {
		t.Errorf("as many values as may be: %d", n)
	}
	if _, err := node.Build(append(slices.Clone(wide), stepList(0), stepList(api.MaxNodes))); err != api.ErrLong {
		t.Errorf("too many steps: %v", err)
	}
	long := strings.Repeat("x", api.MaxBytes)
	if _, b, _ := build(t, stepText(long)).Size(); b != api.MaxBytes {
		t.Errorf("as many bytes as may be: %d", b)
	}
	for _, l := range [][]api.Step{{stepText(long + "x")}, {stepText(long), stepObject("a")}, {stepText(long), stepText("a"), stepList(2)}, {stepNull, stepObject(long + "x")}} {
		if _, err := node.Build(l); err != (api.Spot{Err: api.ErrLong, At: len(l) - 1}) {
			t.Errorf("too many bytes: %v", err)
		}
	}
	if _, err := node.Build([]api.Step{stepText(long + "\xFF")}); err != (api.Spot{Err: api.ErrText}) {
		t.Errorf("no right text that is too long: %v", err)
	}
	build(t, stepText(long[1:]), stepObject("a"))
	tooMany(t)
}

// tooMany: values that are shared count as often as they stand there.
func tooMany(t *testing.T) {
	t.Helper()
	m := node.New()
	m.Null()
	for range 15 { // each list has the one ahead twice, and itself
		tree, _ := m.Tree()
		if m.Copy(tree.Root()) != nil || m.List(2) != nil {
			t.Fatal("a list of two")
		}
	}
	tree, _ := m.Tree()
	if n, _, d := tree.Size(); n != 1<<16-1 || d != 16 {
		t.Errorf("%d values, %d deep", n, d)
	}
	if m.Null() != nil || m.List(2) != api.ErrLong || m.Len() != 2 {
		t.Error("more values than may be")
	}
	if m.Drop() != nil || m.List(1) != nil {
		t.Error("as many values as may be")
	}
}

func TestThereAndBack(t *testing.T) {
	r := rand.New(rand.NewSource(1))
	for range 3000 {
		v := value(r, 5)
		tree := build(t, steps(v, r)...)
		want := steps(v, nil)
		if !alike(tree.Steps(), want) || !reflect.DeepEqual(tree.Value(), v) {
			t.Fatalf("%#v: %#v", v, tree.Value())
		}
		if again := build(t, tree.Steps()...); !again.Same(tree) || !alike(again.Steps(), want) {
			t.Fatalf("Build of Steps of %#v", v)
		}
		nodes, bytes, depth := tree.Size()
		if n, b, d := extent(v); nodes != n || bytes != b || depth != d {
			t.Fatalf("Size of %#v: %d, %d, %d", v, nodes, bytes, depth)
		}
		u := value(r, 3)
		other := build(t, steps(u, r)...)
		if same := reflect.DeepEqual(u, v); tree.Same(other) != same || other.Same(tree) != same || alike(other.Steps(), want) != same {
			t.Fatalf("Same of %#v and %#v", v, u)
		}
		checkRef(t, tree.Root(), v)
	}
}

// checkRef holds all that a Ref tells against the value that it names.
func checkRef(t *testing.T, r node.Ref, v api.Value) {
	t.Helper()
	if r.Sort() != v.Sort() || !reflect.DeepEqual(r.Value(), v) || !alike(r.Steps(), steps(v, nil)) || !reflect.DeepEqual(r.Tree().Value(), v) {
		t.Fatalf("%#v: %#v", v, r.Value())
	}
	flag, isFlag := v.(api.Flag)
	number, isNumber := v.(api.Number)
	text, isText := v.(api.Text)
	if f, ok := r.Flag(); ok != isFlag || api.Flag(f) != flag {
		t.Fatalf("Flag of %#v: %v, %v", v, f, ok)
	}
	if x, ok := r.Number(); ok != isNumber || api.Number(x) != number {
		t.Fatalf("Number of %#v: %v, %v", v, x, ok)
	}
	if s, ok := r.Text(); ok != isText || api.Text(s) != text {
		t.Fatalf("Text of %#v: %v, %v", v, s, ok)
	}
	s, isScalar := v.(api.Scalar)
	if x, ok := r.Scalar(); ok != isScalar || x != s {
		t.Fatalf("Scalar of %#v: %v, %v", v, x, ok)
	}
	g, isGroup := v.(api.Group)
	if x, ok := r.Group(); ok != isGroup || !reflect.DeepEqual(x, g) || ok == isScalar {
		t.Fatalf("Group of %#v: %v, %v", v, x, ok)
	}
	k, isKeyed := v.(api.Keyed)
	if x, ok := r.Keyed(); ok != isKeyed || !reflect.DeepEqual(x, k) {
		t.Fatalf("Keyed of %#v: %v, %v", v, x, ok)
	}
	checkInside(t, r, v)
}

func checkInside(t *testing.T, r node.Ref, v api.Value) {
	t.Helper()
	var inner []api.Value
	var keys []string
	switch x := v.(type) {
	case api.List:
		inner, keys = x, make([]string, len(x))
	case api.Object:
		for _, m := range x {
			inner, keys = append(inner, m.Value), append(keys, m.Key)
		}
	}
	i := 0
	for key, ref := range r.All() {
		if key != keys[i] {
			t.Fatalf("All of %#v: %q", v, key)
		}
		checkRef(t, ref, inner[i])
		i++
	}
	if i != len(inner) || r.Len() != i {
		t.Fatalf("All of %#v: %d, Len %d", v, i, r.Len())
	}
	for i := -1; i <= len(inner); i++ {
		at, ok := r.At(i)
		key, isKey := r.Key(i)
		there := i >= 0 && i < len(inner)
		if ok != there || at.Sort() != 0 != there || there && !reflect.DeepEqual(at.Value(), inner[i]) {
			t.Fatalf("At(%d) of %#v", i, v)
		}
		keyed := there && v.Sort() == api.SortObject
		if isKey != keyed || keyed && key != keys[i] || !keyed && key != "" {
			t.Fatalf("Key(%d) of %#v: %q, %v", i, v, key, isKey)
		}
		if !keyed {
			continue
		}
		if found, ok := r.Find(key); !ok || !reflect.DeepEqual(found.Value(), inner[i]) {
			t.Fatalf("Find(%q) of %#v", key, v)
		}
	}
	for _, key := range []string{"nowhere", "\xFF", "", "ab", "0"} {
		want := v.Sort() == api.SortObject && slices.Contains(keys, key)
		if found, ok := r.Find(key); ok != want || found.Sort() != 0 != want {
			t.Fatalf("Find(%q) of %#v: %v", key, v, ok)
		}
	}
}

func TestAllIsLeftAndGoneOverAgain(t *testing.T) {
	tree := build(t, stepNumber(1), stepNumber(2), stepNumber(3), stepList(3))
	all := tree.Root().All()
	for range 2 {
		n := 0.0
		for _, r := range all {
			x, _ := r.Number()
			if n++; x != n {
				t.Errorf("All: %v", x)
			}
			if n == 2 {
				break
			}
		}
	}
}

func TestNone(t *testing.T) {
	var none node.Ref
	var tree *node.Tree
	n, b, d := none.Size()
	tn, tb, td := tree.Size()
	if n+b+d+tn+tb+td != 0 || none.Sort() != 0 || none.Value() != nil || none.Tree() != nil || len(none.Steps()) != 0 || none.Len() != 0 || !none.Same(node.Ref{}) {
		t.Error("none")
	}
	if tree.Root().Sort() != 0 || tree.Value() != nil || len(tree.Steps()) != 0 || !tree.Same(nil) {
		t.Error("a nil tree")
	}
	real := build(t, stepNull)
	if tree.Same(real) || real.Same(tree) || none.Same(real.Root()) || real.Root().Same(none) {
		t.Error("none is the same as null")
	}
	if _, ok := none.Flag(); ok {
		t.Error("Flag of none")
	}
	if _, ok := none.Number(); ok {
		t.Error("Number of none")
	}
	if _, ok := none.Text(); ok {
		t.Error("Text of none")
	}
	if s, ok := none.Scalar(); s != nil || ok {
		t.Error("Scalar of none")
	}
	if g, ok := none.Group(); g != nil || ok {
		t.Error("Group of none")
	}
	if k, ok := none.Keyed(); k != nil || ok {
		t.Error("Keyed of none")
	}
	for range none.All() {
		t.Error("All of none")
	}
	if r, ok := none.At(0); ok || r.Sort() != 0 {
		t.Error("At of none")
	}
	if r, ok := none.Find(""); ok || r.Sort() != 0 {
		t.Error("Find of none")
	}
	if k, ok := none.Key(0); ok || k != "" {
		t.Error("Key of none")
	}
}

func TestExampleTree(t *testing.T) {
	tree := build(t, stepNumber(1), stepNumber(2), stepList(2), stepText("é"), stepObject("k", "l"))
	root := tree.Root()
	if n, b, d := tree.Size(); n != 5 || b != 4 || d != 3 {
		t.Errorf("Size: %d, %d, %d", n, b, d)
	}
	l, _ := root.Find("k")
	second, _ := l.At(1)
	if x, ok := second.Number(); x != 2 || !ok || root.Len() != 2 {
		t.Errorf("At: %v", x)
	}
	if k, ok := l.Key(0); k != "" || ok {
		t.Errorf("Key of a list: %q", k)
	}
	if k, ok := root.Key(1); k != "l" || !ok {
		t.Errorf("Key: %q", k)
	}
	if v := build(t, stepList(0)).Value(); v == nil || len(v.(api.List)) != 0 {
		t.Errorf("a list without values: %#v", v)
	}
}

func TestMakerExample(t *testing.T) {
	m := node.New()
	if m.Len() != 0 || m.Top() != nil || m.Text("a") != nil || m.Object("a", "b") != api.ErrFew || m.Number(math.NaN()) != api.ErrFloat || m.Number(2) != nil || m.Object("b", "a") != nil || m.Len() != 1 {
		t.Error("steps")
	}
	want := api.Object{{Key: "a", Value: api.Number(2)}, {Key: "b", Value: api.Text("a")}}
	if !reflect.DeepEqual(m.Top(), want) {
		t.Errorf("Top: %#v", m.Top())
	}
	tree, err := m.Tree()
	if err != nil || !reflect.DeepEqual(tree.Value(), want) || m.Len() != 1 {
		t.Errorf("Tree: %v", err)
	}
	if m.Drop() != nil || m.Drop() != api.ErrFew || m.Copy(node.Ref{}) != api.ErrNone {
		t.Error("Drop, Copy")
	}
	if tree, err := m.Tree(); tree != nil || err != api.ErrOne {
		t.Errorf("Tree of nothing: %v", err)
	}
	if m.Copy(tree.Root()) != nil || m.Null() != nil {
		t.Error("Copy")
	}
	if two, err := m.Tree(); two != nil || err != api.ErrOne {
		t.Errorf("Tree of two: %v", err)
	}
	if m.List(2) != nil || !reflect.DeepEqual(m.Top(), api.List{want, api.Null{}}) {
		t.Errorf("Top: %#v", m.Top())
	}
	if !reflect.DeepEqual(tree.Value(), want) {
		t.Error("a tree has changed")
	}
}

func TestMakerErrors(t *testing.T) {
	m := node.New()
	for what, c := range map[string]struct{ err, want error }{
		"text": {m.Text("\xFF"), api.ErrText}, "infinity": {m.Number(math.Inf(-1)), api.ErrFloat}, "count": {m.List(-1), api.ErrArg}, "few": {m.List(1), api.ErrFew}, "keys": {m.Object("\xC0"), api.ErrText}, "twice": {m.Object("a", "a"), api.ErrTwice}, "long": {m.Text(strings.Repeat("x", api.MaxBytes+1)), api.ErrLong},
	} {
		if c.err != c.want || m.Len() != 0 {
			t.Errorf("%s: %v, want %v", what, c.err, c.want)
		}
	}
	var none *node.Maker
	for i, err := range []error{none.Null(), none.Flag(true), none.Number(math.NaN()), none.Text("\xFF"), none.List(-1), none.Object("a", "a"), none.Copy(node.Ref{}), none.Drop()} {
		if err != api.ErrNil {
			t.Errorf("call %d of nil: %v", i, err)
		}
	}
	if tree, err := none.Tree(); tree != nil || err != api.ErrNil || none.Len() != 0 || none.Top() != nil {
		t.Errorf("Tree of nil: %v", err)
	}
	for range api.MaxSteps {
		if err := m.Flag(false); err != nil {
			t.Fatal(err)
		}
	}
	ref := build(t, stepNull).Root()
	for i, err := range []error{m.Null(), m.Flag(true), m.Number(math.NaN()), m.Text("\xFF"), m.Copy(ref)} {
		if err != api.ErrLong || m.Len() != api.MaxSteps {
			t.Errorf("call %d of a row that is full: %v", i, err)
		}
	}
	if m.Copy(node.Ref{}) != api.ErrNone || m.List(api.MaxSteps) != api.ErrLong || m.Len() != api.MaxSteps {
		t.Error("a row that is full")
	}
	if m.List(api.MaxSteps-1) != nil || m.Len() != 2 {
		t.Error("the list of nearly all")
	}
}

// TestMakerAgainstBuild: the same steps come to the same.
func TestMakerAgainstBuild(t *testing.T) {
	r := rand.New(rand.NewSource(2))
	for range 2000 {
		v := value(r, 5)
		m := node.New()
		for _, s := range steps(v, r) {
			if err := do(m, s); err != nil {
				t.Fatalf("%v: %v", s, err)
			}
		}
		tree, err := m.Tree()
		if err != nil || !reflect.DeepEqual(tree.Value(), v) || !reflect.DeepEqual(m.Top(), v) {
			t.Fatalf("%#v: %#v, %v", v, m.Top(), err)
		}
	}
}

func do(m *node.Maker, s api.Step) error {
	switch s.Sort {
	case api.SortFlag:
		return m.Flag(s.Flag)
	case api.SortNumber:
		return m.Number(math.Float64frombits(s.Bits))
	case api.SortText:
		return m.Text(s.Text)
	case api.SortList:
		return m.List(s.Count)
	case api.SortObject:
		return m.Object(s.Keys...)
	}
	return m.Null()
}

func TestMemory(t *testing.T) {
	keys := []string{"b", "a"}
	l := []api.Step{stepNull, stepTrue, {Sort: api.SortObject, Keys: keys}, stepNumber(1), stepList(2)}
	tree := build(t, l...)
	want := steps(tree.Value(), nil)
	keys[0], l[1].Flag = "x", false
	spoil(tree.Value())
	s := tree.Steps()
	for i := range s {
		for k := range s[i].Keys {
			s[i].Keys[k] = "spoilt"
		}
		s[i].Text = "spoilt"
	}
	g, _ := tree.Root().Group()
	spoil(g)
	first, _ := tree.Root().At(0)
	k, _ := first.Keyed()
	spoil(k)
	if !alike(tree.Steps(), want) {
		t.Errorf("a tree was changed: %v", tree.Steps())
	}
	m := node.New()
	m.Null()
	m.Null()
	keys = []string{"p", "q"}
	m.Object(keys...)
	keys[0] = "r"
	spoil(m.Top())
	if !reflect.DeepEqual(m.Top(), api.Object{{Key: "p", Value: api.Null{}}, {Key: "q", Value: api.Null{}}}) {
		t.Errorf("a maker's row was changed: %v", m.Top())
	}
}

// spoil writes into all that can be written, the room behind ends too.
func spoil(v api.Value) {
	switch x := v.(type) {
	case api.List:
		for i := range x {
			spoil(x[i])
			x[i] = api.Text("spoilt")
		}
		_ = append(x, api.Null{})
	case api.Object:
		for i := range x {
			spoil(x[i].Value)
			x[i] = api.Member{Key: "spoilt"}
		}
		_ = append(x, api.Member{})
	}
}

func TestSharedTree(t *testing.T) {
	tree := build(t, stepText("a"), stepNull, stepObject("k", "l"), stepNumber(1), stepList(2))
	want := tree.Value()
	var all sync.WaitGroup
	for range 8 {
		all.Go(func() {
			for range 100 {
				m := node.New()
				m.Copy(tree.Root())
				if !reflect.DeepEqual(m.Top(), want) || len(tree.Steps()) != 5 || !utf8.ValidString(tree.Steps()[0].Text) {
					t.Error("asked at one time")
				}
			}
		})
	}
	all.Wait()
}
