package patch_test

import (
	"fmt"
	"math"
	"math/rand"
	"reflect"
	"slices"
	"strconv"
	"strings"
	"testing"

	"affidavit/api"
	"affidavit/canon"
	"affidavit/node"
	"affidavit/parse"
	"affidavit/patch"
	"affidavit/pointer"
)

const example = `{"a":[1,2],"b":{"c":null}}`

func read(t testing.TB, s string) *node.Tree {
	t.Helper()
	tree, err := parse.Read([]byte(s), api.MaxDepth)
	if err != nil {
		t.Fatalf("%s: %v", s, err)
	}
	return tree
}

func form(tree *node.Tree) string {
	b, _ := canon.Bytes(tree)
	return string(b)
}

func ops(t testing.TB, l ...string) []api.Op {
	t.Helper()
	var ops []api.Op
	for _, s := range l {
		ops = append(ops, op(t, s))
	}
	return ops
}

// op is an operation that is written as its kind, its path, and from or value.
func op(t testing.TB, s string) api.Op {
	t.Helper()
	kinds := map[string]int{"add": api.OpAdd, "remove": api.OpRemove, "replace": api.OpReplace, "move": api.OpMove, "copy": api.OpCopy, "test": api.OpTest}
	word, rest, _ := strings.Cut(s, " ")
	path, rest, _ := strings.Cut(rest, " ")
	o := api.Op{Kind: kinds[word], Path: strings.Trim(path, `"`)}
	switch o.Kind {
	case api.OpMove, api.OpCopy:
		o.From = strings.Trim(rest, `"`)
	case api.OpAdd, api.OpReplace, api.OpTest:
		o.Steps = read(t, rest).Steps()
	}
	return o
}

func same(a, b []api.Op) bool {
	return slices.EqualFunc(a, b, func(x, y api.Op) bool {
		return x.Kind == y.Kind && x.Path == y.Path && x.From == y.From && len(x.Steps) == len(y.Steps) && (len(x.Steps) == 0 || reflect.DeepEqual(clean(x.Steps), clean(y.Steps)))
	})
}

// clean makes lists without elements one.
func clean(l []api.Step) []api.Step {
	l = slices.Clone(l)
	for i := range l {
		if len(l[i].Keys) == 0 {
			l[i].Keys = nil
		}
	}
	return l
}

func TestApplyExamples(t *testing.T) {
	for want, l := range map[string][]string{
		`{"a":[1,9,2,8],"b":{"c":null,"d":true}}`: {"add /a/1 9", "add /a/- 8", "add /b/d true"}, `{"a":[2],"b":5}`: {"remove /a/0", "replace /b 5"}, `{"a":2,"b":{"c":null,"x":[1,2]}}`: {"move /b/x /a", "copy /a /b/x/1"}, "7": {`add "" 7`}, "2": {`move "" /a/1`}, example: {"test /a [1,2]", "test /a/0 1.0"},
		`{"a":[2,1],"b":{"c":null}}`: {"move /a/1 /a/0"}, `{"a":[1,2],"b":{}}`: {"remove /b/c"}, `[]`: {`replace "" []`}, `{"a":[1,2,1],"b":{"c":null}}`: {"copy /a/- /a/0"}, `{"a":[1,2,{"a":[1,2],"b":{"c":null}}],"b":{"c":null}}`: {`copy /a/2 ""`}, `{"a":{"c":null}}`: {"move /a /b"}, `{"a":[1,2],"b":{"c":{"c":null}}}`: {"copy /b/c /b"},
		`{"a":[2,1],"b":{"c":null}} `: {"move /a/0 /a/1"}, `[1,2]`: {`move "" /a`}, `{"a":[1,2],"b":{"c":null}} `: {`move "" ""`, "move /a /a"}, `{"":1,"a":[1,2],"b":{"c":null,"~/":0}}`: {"add / 1", "add /b/~0~1 0"}, `{"a":[0,1,2],"b":{"c":5}}`: {"add /a/0 0", "add /b/c 5"}, `{"a":[1,2,3],"b":{"c":null}}`: {"add /a/2 3"},
	} {
		tree := read(t, example)
		got, err := patch.Apply(tree, ops(t, l...))
		if err != nil || form(got) != strings.TrimSpace(want) || form(tree) != example {
			t.Errorf("Apply of %q: %s, %v, want %s", l, form(got), err, want)
		}
	}
}

func TestApplyErrors(t *testing.T) {
	for s, want := range map[string]api.Spot{
		`remove ""`: {Err: api.ErrEmpty}, "move /b/c/x /b": {Err: api.ErrInto}, "add /a/3 1": {Err: api.ErrNone}, "add /a/01 1": {Err: api.ErrSlot}, "add /a/0/x 1": {Err: api.ErrSort}, "test /b/c 0": {Err: api.ErrTest}, "remove /a;remove /a": {Err: api.ErrNone, At: 1}, "remove /a/-": {Err: api.ErrNone}, "add x 1": {Err: api.ErrPath}, "jump /a": {Err: api.ErrOp},
		`move /a ""`: {Err: api.ErrInto}, "move /x/y /x": {Err: api.ErrInto}, "move /b /z": {Err: api.ErrNone}, "copy /b /z": {Err: api.ErrNone}, "move /z /z": {Err: api.ErrNone}, "replace /z 1": {Err: api.ErrNone}, "test /z 1": {Err: api.ErrNone}, "replace /a/- 1": {Err: api.ErrNone}, "replace /a/2 1": {Err: api.ErrNone}, "add /z/y 1": {Err: api.ErrNone}, "add /z/y/x 1": {Err: api.ErrNone}, "add /a/2/x 1": {Err: api.ErrNone}, "add /b/c/x 1": {Err: api.ErrSort}, "add /a/x 1": {Err: api.ErrSlot}, "add /a/ 1": {Err: api.ErrSlot}, "add /a/-1 1": {Err: api.ErrSlot}, "add /a/99999999999999999999999 1": {Err: api.ErrNone}, "add /a/00 1": {Err: api.ErrSlot}, "add /a/1e0 1": {Err: api.ErrSlot}, "add /a/-- 1": {Err: api.ErrSlot},
		"move /a/1/x /a/0": {Err: api.ErrNone}, "move /a/2 /a/0": {Err: api.ErrNone}, "move /a/9 /z": {Err: api.ErrNone}, "move /b/x/y /a": {Err: api.ErrNone}, "copy x /z": {Err: api.ErrPath}, "copy /z x": {Err: api.ErrPath}, "move /~ /a": {Err: api.ErrPath}, "test /a [1,2];test /a [2,1]": {Err: api.ErrTest, At: 1}, "move /a/0/y /a/1": {Err: api.ErrSort}, "copy /a/x /b": {Err: api.ErrSlot}, "remove x": {Err: api.ErrPath}, "test /a/- 1": {Err: api.ErrNone}, "add /a/- 1;remove /b;jump /": {Err: api.ErrOp, At: 2},
	} {
		tree := read(t, example)
		got, err := patch.Apply(tree, ops(t, strings.Split(s, ";")...))
		if got != nil || err != want || form(tree) != example {
			t.Errorf("Apply of %s: %s, %v, want %v", s, form(got), err, want)
		}
		back, err := patch.Invert(tree, ops(t, strings.Split(s, ";")...))
		if back != nil || err != want {
			t.Errorf("Invert of %s: %v, want %v", s, err, want)
		}
	}
	tree := read(t, example)
	bad := []api.Step{{Sort: 9}}
	for i, c := range []struct {
		op   api.Op
		want api.Errno
	}{
		{api.Op{Kind: api.OpAdd, Path: "/z/z", Steps: bad}, api.ErrValue}, {api.Op{Kind: api.OpTest, Path: "/z", Steps: nil}, api.ErrValue}, {api.Op{Kind: api.OpReplace, Path: "x", Steps: bad}, api.ErrPath}, {api.Op{Kind: 7, Path: "x"}, api.ErrOp}, {api.Op{Kind: 0}, api.ErrOp}, {api.Op{Kind: -1}, api.ErrOp}, {api.Op{Kind: math.MaxInt}, api.ErrOp}, {api.Op{Kind: api.OpRemove, Path: "/\xFF"}, api.ErrPath}, {api.Op{Kind: api.OpCopy, Path: "/x", From: "/\xFF"}, api.ErrPath}, {api.Op{Kind: api.OpReplace, Path: "/a", Steps: make([]api.Step, api.MaxSteps+1)}, api.ErrValue}, {api.Op{Kind: api.OpRemove, Path: strings.Repeat("/", api.MaxSteps+1)}, api.ErrPath},
	} {
		if got, err := patch.Apply(tree, []api.Op{c.op}); got != nil || err != (api.Spot{Err: c.want}) {
			t.Errorf("case %d: %v", i, err)
		}
		if got, err := patch.Invert(tree, []api.Op{c.op}); got != nil || err != (api.Spot{Err: c.want}) {
			t.Errorf("case %d: Invert: %v", i, err)
		}
	}
	unused := []api.Op{{Kind: api.OpRemove, Path: "/a", From: "x", Steps: bad}, {Kind: api.OpCopy, Path: "/z", From: "/b", Steps: bad}, {Kind: api.OpAdd, Path: "/y", From: "\xFF", Steps: read(t, "1").Steps()}}
	if got, err := patch.Apply(tree, unused); err != nil || form(got) != `{"b":{"c":null},"y":1,"z":{"c":null}}` {
		t.Errorf("fields that are not used: %s, %v", form(got), err)
	}
	_, err := patch.Apply(nil, make([]api.Op, api.MaxSteps+1))
	_, err2 := patch.Invert(nil, nil)
	_, err3 := patch.Apply(tree, make([]api.Op, api.MaxSteps+1))
	_, err4 := patch.Invert(tree, make([]api.Op, api.MaxSteps+1))
	if err != api.ErrNil || err2 != api.ErrNil || err3 != api.ErrLong || err4 != api.ErrLong {
		t.Errorf("%v, %v, %v, %v", err, err2, err3, err4)
	}
}

// fail is what ends the reference's doing.
type fail api.Errno

func must(well bool, no api.Errno) {
	if !well {
		panic(fail(no))
	}
}

// find is what tokens lead to; nil, if nothing.
func find(v api.Value, tokens []string) api.Value {
	for _, token := range tokens {
		switch x := v.(type) {
		case api.List:
			i, ok := pointer.Index(token, len(x))
			if !ok {
				return nil
			}
			v = x[i]
		case api.Object:
			i := slices.IndexFunc(x, func(m api.Member) bool { return m.Key == token })
			if i < 0 {
				return nil
			}
			v = x[i].Value
		default:
			return nil
		}
	}
	return v
}

// with is v with what f makes of what tokens lead to.
func with(v api.Value, tokens []string, f func(api.Value) api.Value) api.Value {
	if len(tokens) == 0 {
		return f(v)
	}
	switch x := v.(type) {
	case api.List:
		i, _ := pointer.Index(tokens[0], len(x))
		x = slices.Clone(x)
		x[i] = with(x[i], tokens[1:], f)
		return x
	case api.Object:
		x = slices.Clone(x)
		i := slices.IndexFunc(x, func(m api.Member) bool { return m.Key == tokens[0] })
		x[i].Value = with(x[i].Value, tokens[1:], f)
		return x
	}
	panic("no group")
}

func add(v api.Value, tokens []string, what api.Value) api.Value {
	if len(tokens) == 0 {
		return what
	}
	up, last := tokens[:len(tokens)-1], tokens[len(tokens)-1]
	must(find(v, up) != nil, api.ErrNone)
	return with(v, up, func(p api.Value) api.Value {
		switch x := p.(type) {
		case api.List:
			if last == "-" {
				return append(slices.Clone(x), what)
			}
			n, err := strconv.ParseUint(last, 10, 64)
			must(err == nil && strconv.FormatUint(n, 10) == last, api.ErrSlot)
			must(n <= uint64(len(x)), api.ErrNone)
			return slices.Insert(slices.Clone(x), int(n), what)
		case api.Object:
			x = slices.DeleteFunc(slices.Clone(x), func(m api.Member) bool { return m.Key == last })
			i, _ := slices.BinarySearchFunc(x, last, func(m api.Member, k string) int { return strings.Compare(m.Key, k) })
			return slices.Insert(x, i, api.Member{Key: last, Value: what})
		}
		panic(fail(api.ErrSort))
	})
}

func take(v api.Value, tokens []string) api.Value {
	up, last := tokens[:len(tokens)-1], tokens[len(tokens)-1]
	return with(v, up, func(p api.Value) api.Value {
		switch x := p.(type) {
		case api.List:
			i, _ := pointer.Index(last, len(x))
			return slices.Delete(slices.Clone(x), i, i+1)
		case api.Object:
			return slices.DeleteFunc(slices.Clone(x), func(m api.Member) bool { return m.Key == last })
		}
		panic("no group")
	})
}

// done is what the operations make of a value, by the words of the document.
func done(v api.Value, l []api.Op) (out api.Value, err error) {
	at := 0
	defer func() {
		if p := recover(); p != nil {
			out, err = nil, api.Spot{Err: api.Errno(p.(fail)), At: at}
		}
	}()
	for i, o := range l {
		at = i
		path, _ := pointer.Parse(o.Path)
		from, _ := pointer.Parse(o.From)
		tree, _ := node.Build(o.Steps)
		value := tree.Value()
		must(o.Kind != api.OpMove || !strings.HasPrefix(o.Path, o.From+"/"), api.ErrInto)
		must(o.Kind != api.OpRemove || o.Path != "", api.ErrEmpty)
		switch o.Kind {
		case api.OpMove, api.OpCopy:
			must(find(v, from) != nil, api.ErrNone)
		case api.OpRemove, api.OpReplace, api.OpTest:
			must(find(v, path) != nil, api.ErrNone)
		}
		switch o.Kind {
		case api.OpAdd:
			v = add(v, path, value)
		case api.OpRemove:
			v = take(v, path)
		case api.OpReplace:
			v = with(v, path, func(api.Value) api.Value { return value })
		case api.OpMove:
			if o.Path != o.From {
				what := find(v, from)
				v = add(take(v, from), path, what)
			}
		case api.OpCopy:
			v = add(v, path, find(v, from))
		case api.OpTest:
			must(reflect.DeepEqual(find(v, path), value), api.ErrTest)
		}
	}
	return v, nil
}

// random is a value, as a document.
func random(r *rand.Rand, depth int) string {
	k := r.Intn(6)
	if depth == 1 {
		k = r.Intn(3)
	}
	var l []string
	switch {
	case k > 4:
		for range r.Intn(4) {
			l = append(l, random(r, depth-1))
		}
		return "[" + strings.Join(l, ",") + "]"
	case k > 2:
		for _, key := range []string{"a", "b", "0", "~"} {
			if r.Intn(2) == 0 {
				l = append(l, strconv.Quote(key)+":"+random(r, depth-1))
			}
		}
		return "{" + strings.Join(l, ",") + "}"
	}
	return []string{"null", "1", `"x"`}[k]
}

// somewhere is a pointer that leads to something, or nearly so.
func somewhere(r *rand.Rand, tree *node.Tree) string {
	var all []string
	for p := range pointer.All(tree) {
		all = append(all, p)
	}
	p := all[r.Intn(len(all))]
	if r.Intn(3) == 0 {
		p += "/" + []string{"a", "b", "0", "1", "2", "-", "~0", "01", "x"}[r.Intn(9)]
	}
	return p
}

func TestApplyAgainstReference(t *testing.T) {
	r := rand.New(rand.NewSource(1))
	went := 0
	for range 6000 {
		tree := read(t, random(r, 4))
		now, was := tree, tree.Value()
		var l []api.Op
		for range r.Intn(7) {
			o := api.Op{Kind: 1 + r.Intn(6), Path: somewhere(r, now), From: somewhere(r, now), Steps: read(t, random(r, 3)).Steps()}
			if o.Kind == api.OpTest && r.Intn(4) > 0 {
				if ref, err := pointer.Find(now, o.Path); err == nil {
					o.Steps = ref.Steps()
				}
			}
			l = append(l, o)
			next, err := patch.Apply(now, []api.Op{o})
			if err != nil && r.Intn(4) > 0 {
				l = l[:len(l)-1]
				continue
			} else if err == nil {
				now = next
			}
		}
		want, wrong := done(tree.Value(), l)
		got, err := patch.Apply(tree, l)
		if err != wrong && fmt.Sprint(err) != fmt.Sprint(wrong) || !reflect.DeepEqual(got.Value(), want) || !reflect.DeepEqual(tree.Value(), was) {
			t.Fatalf("Apply(%s, %v): %s, %v, want %v, %v", form(tree), l, form(got), err, want, wrong)
		}
		if err == nil {
			went++
			checkInvert(t, tree, got, l)
			checkTwoLists(t, r, tree, got, l)
			checkTell(t, l)
		}
	}
	if went < 2000 {
		t.Errorf("only %d went", went)
	}
}

// checkInvert: what Invert answers leads back, and from there on.
func checkInvert(t *testing.T, tree, got *node.Tree, l []api.Op) {
	t.Helper()
	back, err := patch.Invert(tree, l)
	if err != nil {
		t.Fatalf("Invert(%s, %v): %v", form(tree), l, err)
	}
	if first, err := patch.Apply(got, back); err != nil || !first.Same(tree) {
		t.Fatalf("Invert(%s, %v): %v leads to %s, %v", form(tree), l, back, form(first), err)
	}
	for _, o := range back {
		if o.From != "" || o.Kind != api.OpAdd && o.Kind != api.OpRemove && o.Kind != api.OpReplace || (o.Kind == api.OpRemove) != (len(o.Steps) == 0) {
			t.Fatalf("Invert(%s, %v): %v", form(tree), l, o)
		}
	}
}

// checkTwoLists: P17.7.
func checkTwoLists(t *testing.T, r *rand.Rand, tree, got *node.Tree, l []api.Op) {
	t.Helper()
	n := r.Intn(len(l) + 1)
	first, err := patch.Apply(tree, l[:n])
	if err != nil {
		t.Fatal(err)
	}
	if second, err := patch.Apply(first, l[n:]); err != nil || !second.Same(got) {
		t.Fatalf("Apply(%s, %v) in two: %s, %v", form(tree), l, form(second), err)
	}
}

// checkTell: Read of Tell are the operations.
func checkTell(t *testing.T, l []api.Op) {
	t.Helper()
	tree, err := patch.Tell(l)
	if err != nil {
		t.Fatal(err)
	}
	back, err := patch.Read(tree)
	want := slices.Clone(l)
	for i := range want {
		if k := want[i].Kind; k != api.OpMove && k != api.OpCopy {
			want[i].From = ""
		}
		if k := want[i].Kind; k != api.OpAdd && k != api.OpReplace && k != api.OpTest {
			want[i].Steps = nil
		}
	}
	if err != nil || !same(back, want) {
		t.Fatalf("Read of Tell of %v: %v, %v", l, back, err)
	}
}

func TestInvertExamples(t *testing.T) {
	for s, want := range map[string][]string{
		"add /a/- 8;replace /b 5": {`replace /b {"c":null}`, "remove /a/2"}, "move /b/c /a": {"replace /b/c null", "add /a [1,2]"}, "test /a [1,2]": nil, "move /a /a": nil, "copy /b /a": {`replace /b {"c":null}`}, "copy /z /a": {"remove /z"}, `add "" 1`: {`replace "" ` + example}, "remove /a/0": {"add /a/0 1"}, "copy /a/0 /b": {"remove /a/0"}, `move "" /a`: {`replace "" {"b":{"c":null}}`, "add /a [1,2]"}, "move /a/- /b/c": {"remove /a/2", "add /b/c null"}, "add /a/- 1;add /a/- 2": {"remove /a/3", "remove /a/2"}, `replace "" 3`: {`replace "" ` + example},
	} {
		got, err := patch.Invert(read(t, example), ops(t, strings.Split(s, ";")...))
		if err != nil || !same(got, ops(t, want...)) {
			t.Errorf("Invert of %s: %v, %v", s, got, err)
		}
	}
}

func TestRead(t *testing.T) {
	at := func(e api.Errno, p string) error { return api.Trail{Err: e, Pointer: p} }
	for s, want := range map[string]error{
		`[{"op":"add","path":"/x"}]`: at(api.ErrNone, "/0"), `[{"op":"put"}]`: at(api.ErrOp, "/0/op"), "{}": at(api.ErrSort, ""), "1": at(api.ErrSort, ""), `[{"op":"remove","path":"/x"},1]`: at(api.ErrSort, "/1"), "[[]]": at(api.ErrSort, "/0"), "[{}]": at(api.ErrNone, "/0"), `[{"op":1}]`: at(api.ErrSort, "/0/op"), `[{"op":""}]`: at(api.ErrOp, "/0/op"), `[{"op":"Add"}]`: at(api.ErrOp, "/0/op"), `[{"op":"add"}]`: at(api.ErrNone, "/0"), `[{"op":"add","path":null}]`: at(api.ErrSort, "/0/path"), `[{"op":"add","path":"x"}]`: at(api.ErrPath, "/0/path"), `[{"op":"move","path":"/x"}]`: at(api.ErrNone, "/0"), `[{"op":"copy","path":"/x","from":[]}]`: at(api.ErrSort, "/0/from"), `[{"op":"move","path":"/x","from":"/~"}]`: at(api.ErrPath, "/0/from"), `[{"op":"move","path":"/~","from":"/~"}]`: at(api.ErrPath, "/0/path"), `[{"op":"test","path":"","from":"~"}]`: at(api.ErrNone, "/0"), `[{"op":"put","path":1}]`: at(api.ErrOp, "/0/op"), `[{"op":"replace","path":"/a","from":"x"}]`: at(api.ErrNone, "/0"),
	} {
		got, err := patch.Read(read(t, s))
		if got != nil || err != want {
			t.Errorf("Read(%s): %v, %v, want %v", s, got, err, want)
		}
	}
	got, err := patch.Read(read(t, `[{"op":"add","path":"/x","value":1,"y":2,"from":3},{"op":"remove","path":"/x","value":1},{"op":"copy","from":"","path":"/~1","value":0},{"op":"test","path":"","value":{"b":[],"a":null}},{"op":"move","from":"/a","path":"/b"},{"op":"replace","path":"/a","value":null}]`))
	if err != nil || !same(got, ops(t, "add /x 1", "remove /x", `copy /~1 ""`, `test "" {"a":null,"b":[]}`, "move /b /a", "replace /a null")) {
		t.Errorf("Read: %v, %v", got, err)
	}
	if got, err := patch.Read(read(t, "[]")); len(got) != 0 || err != nil {
		t.Errorf("Read of no operations: %v, %v", got, err)
	}
	if got, err := patch.Read(nil); got != nil || err != api.ErrNil {
		t.Errorf("Read of nil: %v", err)
	}
}

func TestTell(t *testing.T) {
	l := ops(t, "add /x [1]", "remove /y", "move /a /b", "copy /c /d", "test /e null", "replace /f {}")
	l[1].From, l[1].Steps = "x", []api.Step{{}}
	tree, err := patch.Tell(l)
	if want := `[{"op":"add","path":"/x","value":[1]},{"op":"remove","path":"/y"},{"from":"/b","op":"move","path":"/a"},{"from":"/d","op":"copy","path":"/c"},{"op":"test","path":"/e","value":null},{"op":"replace","path":"/f","value":{}}]`; err != nil || form(tree) != want {
		t.Errorf("Tell: %s, %v", form(tree), err)
	}
	if tree, err := patch.Tell(nil); err != nil || form(tree) != "[]" {
		t.Errorf("Tell of nothing: %s, %v", form(tree), err)
	}
	long := strings.Repeat("x", api.MaxBytes)
	deep := strings.Repeat("[", 510) + strings.Repeat("]", 510)
	text := func(s string) []api.Step { return []api.Step{{Sort: api.SortText, Text: s}} }
	many := slices.Repeat(ops(t, "copy /a /b"), 16383) // four values each
	for i, c := range []struct {
		l    []api.Op
		want error
	}{
		{ops(t, "remove /a", "add x 1"), api.Spot{Err: api.ErrPath, At: 1}}, {ops(t, "jump /a"), api.Spot{Err: api.ErrOp}}, {[]api.Op{{Kind: api.OpTest}}, api.Spot{Err: api.ErrValue}}, {ops(t, "copy /a x"), api.Spot{Err: api.ErrPath}}, {ops(t, `remove ""`, "move /a/b /a"), nil}, {make([]api.Op, api.MaxSteps+1), api.ErrLong},
		{[]api.Op{{Kind: api.OpAdd, Steps: text(long)}}, api.Spot{Err: api.ErrLong}}, {[]api.Op{{Kind: api.OpAdd, Steps: text(long[14:])}}, nil}, {[]api.Op{{Kind: api.OpAdd, Steps: text(long[13:])}}, api.Spot{Err: api.ErrLong}}, {[]api.Op{{Kind: api.OpAdd, Steps: text(long[14:])}, {Kind: api.OpAdd, Path: "x"}}, api.Spot{Err: api.ErrPath, At: 1}}, {[]api.Op{{Kind: api.OpAdd, Steps: text(long[14:])}, {Kind: api.OpRemove}}, api.Spot{Err: api.ErrLong, At: 1}},
		{ops(t, "add /a "+deep), nil}, {ops(t, "remove /b", "add /a ["+deep+"]"), api.Spot{Err: api.ErrLong, At: 1}}, {many, nil}, {append(slices.Clone(many), ops(t, "remove /a")...), nil}, {append(slices.Clone(many), ops(t, "copy /a /b")...), api.Spot{Err: api.ErrLong, At: 16383}},
	} {
		if tree, err := patch.Tell(c.l); err != c.want || (tree == nil) != (err != nil) {
			t.Errorf("case %d: %v, want %v", i, err, c.want)
		}
	}
}

func TestLimits(t *testing.T) {
	var wide strings.Builder
	wide.WriteString(`{"a":[`)
	for range 32765 {
		wide.WriteString("1,")
	}
	wide.WriteString(`1],"b":null}`) // 32769 values
	tree := read(t, wide.String())
	for i, c := range []struct {
		l    []string
		want error
	}{
		{[]string{"copy /b /a"}, nil}, {[]string{"copy /c /a"}, nil}, {[]string{"copy /c /a", "add /e 1"}, api.Spot{Err: api.ErrLong, At: 1}}, {[]string{"add /d 1", "copy /c /a"}, api.Spot{Err: api.ErrLong, At: 1}}, {[]string{"copy /b /a", "copy /c /a"}, api.Spot{Err: api.ErrLong, At: 1}}, {[]string{"copy /b /a", "remove /a", "copy /c /b"}, nil}, {[]string{"copy /b /a", "move /c /b", "copy /d /c"}, api.Spot{Err: api.ErrLong, At: 2}}, {[]string{"copy /b /a", "copy /b /a", "copy /b /a"}, nil}, {[]string{"copy /b /a", `move "" /b`, `copy /0 ""`}, nil},
	} {
		if got, err := patch.Apply(tree, ops(t, c.l...)); err != c.want || (got == nil) != (err != nil) {
			t.Errorf("case %d: %v, want %v", i, err, c.want)
		}
	}
	deep := read(t, `{"a":`+strings.Repeat("[", 510)+strings.Repeat("]", 510)+`,"b":{"c":{}},"x":1}`)
	long := read(t, `{"a":"`+strings.Repeat("x", api.MaxBytes-4)+`","b":"x"}`)
	for i, c := range []struct {
		tree *node.Tree
		l    []string
		want error
	}{
		{deep, []string{"move /b/d /a"}, nil}, {deep, []string{"move /b/c/d /a"}, api.Spot{Err: api.ErrLong}}, {deep, []string{"copy /b/d /a", "copy /b/d /a"}, nil}, {deep, []string{"copy /b/c/d /a"}, api.Spot{Err: api.ErrLong}}, {deep, []string{"copy /c /b", "move /b/d /a", "move /c/d /b"}, api.Spot{Err: api.ErrLong, At: 2}}, {deep, []string{"replace /b/c " + strings.Repeat("[", 510) + strings.Repeat("]", 510)}, nil}, {deep, []string{"replace /b/c " + strings.Repeat("[", 511) + strings.Repeat("]", 511)}, api.Spot{Err: api.ErrLong}}, {deep, []string{"replace /a 1", "add /b/c/d " + strings.Repeat("[", 509) + strings.Repeat("]", 509)}, nil},
		{long, []string{`add /b "xy"`}, nil}, {long, []string{`add /b "xyz"`}, api.Spot{Err: api.ErrLong}}, {long, []string{"add /c 1"}, nil}, {long, []string{"add /cd 1"}, api.Spot{Err: api.ErrLong}}, {long, []string{"copy /c /b"}, api.Spot{Err: api.ErrLong}}, {long, []string{"move /cd /b"}, nil}, {long, []string{"move /cde /b"}, api.Spot{Err: api.ErrLong}}, {long, []string{"remove /b", "add /cd 1", "add /ce 1"}, api.Spot{Err: api.ErrLong, At: 2}}, {long, []string{"remove /b", "add /cd 1", "add /c 1"}, nil}, {long, []string{"remove /b", "add /cd 1", "remove /cd", "add /c 1", `replace /c "x"`, "add /d 1"}, nil},
	} {
		if got, err := patch.Apply(c.tree, ops(t, c.l...)); err != c.want || (got == nil) != (err != nil) {
			t.Errorf("case %d: %v, want %v", i, err, c.want)
		}
	}
}

func TestManySteps(t *testing.T) {
	one := op(t, "add /a/- 1")
	most := slices.Repeat([]api.Op{one, op(t, "remove /a/0")}, api.MaxSteps/2)
	got, err := patch.Apply(read(t, example), most)
	if err != nil || form(got) != `{"a":[1,1],"b":{"c":null}}` {
		t.Errorf("as many as may be: %s, %v", form(got), err)
	}
	if back, err := patch.Invert(read(t, example), most); len(back) != api.MaxSteps || err != nil {
		t.Errorf("as many as may be: %d, %v", len(back), err)
	}
	moves := slices.Repeat([]api.Op{op(t, "move /a/0 /a/1")}, api.MaxSteps/2+1)
	if back, err := patch.Invert(read(t, example), moves); back != nil || err != api.ErrLong {
		t.Errorf("undone by too many: %v", err)
	}
	if back, err := patch.Invert(read(t, example), moves[1:]); len(back) != api.MaxSteps || err != nil {
		t.Errorf("undone by as many as may be: %d, %v", len(back), err)
	}
	adds := slices.Repeat([]api.Op{one}, api.MaxSteps-8)
	if got, err := patch.Apply(read(t, example), adds); err != nil || got.Root().Len() != 2 {
		t.Errorf("a long list: %v", err)
	}
}

func TestMemory(t *testing.T) {
	l := ops(t, `add /c {"k":[1]}`, "copy /d /c")
	want := ops(t, `add /c {"k":[1]}`, "copy /d /c")
	tree := read(t, example)
	got, _ := patch.Apply(tree, l)
	back, _ := patch.Invert(got, ops(t, "remove /c"))
	back[0].Steps[1].Count = 9
	back[0].Steps[2].Keys[0] = "spoilt"
	if !same(l, want) || form(got) != `{"a":[1,2],"b":{"c":null},"c":{"k":[1]},"d":{"k":[1]}}` {
		t.Errorf("something is shared: %v, %s", l, form(got))
	}
}
