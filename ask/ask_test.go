package ask_test

import (
	"math"
	"math/rand"
	"reflect"
	"slices"
	"sync"
	"testing"

	"affidavit/api"
	"affidavit/ask"
	"affidavit/node"
	"affidavit/parse"
	"affidavit/pointer"
)

const example = `{"a":[1,null],"b":"x"}`

func read(t *testing.T, s string) *node.Tree {
	t.Helper()
	tree, err := parse.Read([]byte(s), api.MaxDepth)
	if err != nil {
		t.Fatalf("%s: %v", s, err)
	}
	return tree
}

func TestAskExamples(t *testing.T) {
	tree := read(t, example)
	for i, c := range []struct {
		t          *node.Tree
		p          string
		want, form int
		heard      api.Heard
		err        error
	}{
		{tree, "/a", api.WantGroup, api.FormTwo, api.Heard{OK: true, Sort: api.SortList}, nil}, {tree, "/a", api.WantScalar, api.FormTwo, api.Heard{}, nil}, {tree, "/a", api.WantScalar, api.FormOne, api.Heard{Panicked: true}, nil},
		{tree, "", api.WantKeyed, api.FormCall, api.Heard{OK: true, Sort: api.SortObject}, nil}, {tree, "/a", api.WantKeyed, api.FormSwitch, api.Heard{}, nil}, {tree, "/c", api.WantValue, api.FormTwo, api.Heard{OK: true}, nil}, {tree, "/c", api.WantLost, api.FormOne, api.Heard{OK: true}, nil}, {tree, "c", api.WantLost, api.FormCall, api.Heard{OK: true, Nil: true}, nil}, {tree, "c", api.WantValue, api.FormSwitch, api.Heard{OK: true, Nil: true}, nil}, {tree, "c", api.WantScalar, api.FormCall, api.Heard{Panicked: true}, nil},
		{nil, "", api.WantValue, api.FormTwo, api.Heard{}, nil}, {nil, "", api.WantValue, api.FormOne, api.Heard{Panicked: true}, nil}, {nil, "x", api.WantLost, api.FormSwitch, api.Heard{}, nil}, {tree, "", 0, api.FormTwo, api.Heard{}, api.ErrArg}, {tree, "", api.WantValue, 5, api.Heard{}, api.ErrArg}, {tree, "", 12, 1, api.Heard{}, api.ErrArg}, {tree, "", 1, 0, api.Heard{}, api.ErrArg}, {nil, "", -1, 1, api.Heard{}, api.ErrArg}, {tree, "", 1, -1, api.Heard{}, api.ErrArg}, {tree, "", math.MaxInt, math.MinInt, api.Heard{}, api.ErrArg},
	} {
		if h, err := ask.Ask(c.t, c.p, c.want, c.form); h != c.heard || err != c.err {
			t.Errorf("case %d: %v, %v", i, h, err)
		}
	}
}

// holds is the table of the document.
func holds(v api.Value, want int) bool {
	if v == nil {
		return false
	}
	name := reflect.TypeOf(v).String()
	in := func(l ...string) bool { return slices.Contains(l, name) }
	switch want {
	case api.WantValue:
		return true
	case api.WantScalar:
		return in("api.Null", "api.Flag", "api.Number", "api.Text")
	case api.WantGroup:
		return in("api.List", "api.Object")
	case api.WantKeyed, api.WantObject:
		return in("api.Object")
	case api.WantNull:
		return in("api.Null")
	case api.WantFlag:
		return in("api.Flag")
	case api.WantNumber:
		return in("api.Number")
	case api.WantText:
		return in("api.Text")
	case api.WantList:
		return in("api.List")
	case api.WantLost:
		return in("*api.Lost")
	}
	return false
}

// heard is what the document says that is heard.
func heard(v api.Value, want, form int) api.Heard {
	if !holds(v, want) {
		return api.Heard{Panicked: form == api.FormOne || form == api.FormCall}
	}
	sorts := map[string]api.Sort{"api.Null": api.SortNull, "api.Flag": api.SortFlag, "api.Number": api.SortNumber, "api.Text": api.SortText, "api.List": api.SortList, "api.Object": api.SortObject}
	return api.Heard{OK: true, Sort: sorts[reflect.TypeOf(v).String()], Nil: reflect.ValueOf(v).Kind() == reflect.Pointer && reflect.ValueOf(v).IsNil()}
}

const all = `{"n":null,"t":true,"f":false,"i":0,"x":-1.5,"s":"","u":"é","l":[],"m":[[1],{"k":null}],"o":{},"p":{"q":{"r":[]}}}`

var places = []string{"", "/n", "/t", "/f", "/i", "/x", "/s", "/u", "/l", "/m", "/m/0", "/m/0/0", "/m/1", "/m/1/k", "/o", "/p", "/p/q", "/p/q/r", "/z", "/n/a", "/m/9", "/l/0", "z", "/~", "/\xFF", "/p/q/r/s"}

func TestTable(t *testing.T) {
	tree := read(t, all)
	var claims []api.Claim
	var want []api.Heard
	for _, tr := range []*node.Tree{tree, nil} {
		for _, p := range places {
			v := pointer.Look(tr, p)
			for w := api.WantValue; w <= api.WantLost; w++ {
				for form := api.FormTwo; form <= api.FormCall; form++ {
					h, err := ask.Ask(tr, p, w, form)
					if h != heard(v, w, form) || err != nil {
						t.Fatalf("Ask(%q, %d, %d): %v, %v", p, w, form, h, err)
					}
					if tr != nil {
						claims, want = append(claims, api.Claim{Pointer: p, Want: w, Form: form}), append(want, h)
					}
				}
				checkTell(t, tr, p, w, v)
			}
			if v, ok := ask.Tell(tr, p, 0); v != nil || ok {
				t.Fatalf("Tell of no want: %v", v)
			}
			if v, ok := ask.Tell(tr, p, 12); v != nil || ok {
				t.Fatalf("Tell of no want: %v", v)
			}
		}
	}
	row, err := ask.Row(tree, claims)
	if err != nil || !slices.Equal(row, want) {
		t.Errorf("Row: %v", err)
	}
}

func checkTell(t *testing.T, tree *node.Tree, p string, want int, v api.Value) {
	t.Helper()
	told, ok := ask.Tell(tree, p, want)
	if ok != holds(v, want) || ok && !reflect.DeepEqual(told, v) || !ok && told != nil {
		t.Fatalf("Tell(%q, %d): %v, %v", p, want, told, ok)
	}
	n, err := ask.Pick(tree, p, want)
	if err != nil || (n == 0) != ok || n != 0 && n != -1 {
		t.Fatalf("Pick(%q, %d): %d, %v", p, want, n, err)
	}
}

func TestRow(t *testing.T) {
	tree := read(t, example)
	if row, err := ask.Row(tree, nil); len(row) != 0 || err != nil {
		t.Errorf("Row of nothing: %v, %v", row, err)
	}
	good := api.Claim{Pointer: "/a", Want: api.WantList, Form: api.FormTwo}
	for at, bad := range []api.Claim{{Want: 0, Form: 1}, {Want: 1, Form: 0}, {Want: 12, Form: 1}, {Want: 1, Form: 5}} {
		l := append(slices.Repeat([]api.Claim{good}, at), bad, api.Claim{})
		if row, err := ask.Row(tree, l); row != nil || err != (api.Spot{Err: api.ErrArg, At: at}) {
			t.Errorf("Row: %v, %v", row, err)
		}
	}
	most := slices.Repeat([]api.Claim{good}, api.MaxSteps)
	if row, err := ask.Row(tree, most); len(row) != api.MaxSteps || err != nil || row[api.MaxSteps-1] != (api.Heard{OK: true, Sort: api.SortList}) {
		t.Errorf("Row of many: %v", err)
	}
	if row, err := ask.Row(tree, append(most, api.Claim{})); row != nil || err != api.ErrLong {
		t.Errorf("Row of too many: %v", err)
	}
	if row, err := ask.Row(nil, []api.Claim{good, {Want: api.WantValue, Form: api.FormOne}}); err != nil || !slices.Equal(row, []api.Heard{{}, {Panicked: true}}) {
		t.Errorf("Row of nil: %v, %v", row, err)
	}
}

func TestPick(t *testing.T) {
	tree := read(t, example)
	for _, c := range []struct {
		t     *node.Tree
		p     string
		wants []int
		n     int
		err   error
	}{
		{tree, "/b", []int{api.WantNumber, api.WantScalar, api.WantText}, 1, nil}, {tree, "/a", nil, -1, nil}, {tree, "/a", []int{api.WantGroup, 12}, 0, api.Spot{Err: api.ErrArg, At: 1}}, {tree, "/a", []int{0, 12}, 0, api.Spot{Err: api.ErrArg}}, {tree, "/c", []int{api.WantScalar, api.WantGroup, api.WantLost, api.WantValue}, 2, nil}, {tree, "c", []int{api.WantObject, api.WantValue, api.WantLost}, 1, nil}, {nil, "", []int{api.WantValue, api.WantLost}, -1, nil}, {tree, "", []int{api.WantList, api.WantKeyed}, 1, nil},
		{tree, "", make([]int, api.MaxSteps+1), 0, api.ErrLong}, {tree, "", slices.Repeat([]int{api.WantNull}, api.MaxSteps), -1, nil},
	} {
		if n, err := ask.Pick(c.t, c.p, c.wants...); n != c.n || err != c.err {
			t.Errorf("Pick(%q, %.40v): %d, %v", c.p, c.wants, n, err)
		}
	}
}

func TestSame(t *testing.T) {
	ok, panicked, not := api.Heard{OK: true}, api.Heard{Panicked: true}, api.Heard{}
	tree := read(t, `{"a":[1,null],"b":"x","c":"x","d":[1,null],"e":{},"f":{"g":1},"h":1,"i":null,"j":true,"k":0}`)
	for _, c := range []struct {
		t    *node.Tree
		p, q string
		want api.Heard
	}{
		{tree, "/a", "/a", panicked}, {tree, "/a", "/b", not}, {tree, "/b", "/b", ok}, {tree, "/b", "/c", ok}, {tree, "/z", "/z", not}, {tree, "c", "d", ok}, {nil, "", "/x", ok}, {tree, "/a", "/d", panicked}, {tree, "/e", "/f", panicked}, {tree, "/a", "/e", not}, {tree, "/f/g", "/h", ok}, {tree, "/h", "/a/0", ok}, {tree, "/i", "/a/1", ok}, {tree, "/i", "c", not}, {tree, "/z", "c", not}, {tree, "/j", "/h", not}, {tree, "/k", "/h", not}, {tree, "", "", panicked}, {tree, "", "/e", panicked}, {tree, "/a/0", "/b", not},
	} {
		if h := ask.Same(c.t, c.p, c.q); h != c.want {
			t.Errorf("Same(%q, %q): %v", c.p, c.q, h)
		}
		if h := ask.Same(c.t, c.q, c.p); h != c.want {
			t.Errorf("Same(%q, %q): %v", c.q, c.p, h)
		}
	}
	for _, p := range places {
		v := pointer.Look(read(t, all), p)
		l, lost := v.(*api.Lost)
		_, group := v.(api.Group)
		want := api.Heard{OK: !group && (!lost || l == nil), Panicked: group}
		if h := ask.Same(read(t, all), p, p); h != want {
			t.Errorf("Same(%q) of itself: %v", p, h)
		}
	}
}

func TestSize(t *testing.T) {
	tree := read(t, example)
	for p, c := range map[string]struct {
		n    int
		keys []string
		ok   bool
	}{"": {2, []string{"a", "b"}, true}, "/a": {2, nil, true}, "/b": {}, "/c": {}, "c": {}, "/a/1": {}} {
		if n, keys, ok := ask.Size(tree, p); n != c.n || !slices.Equal(keys, c.keys) || ok != c.ok {
			t.Errorf("Size(%q): %d, %q, %v", p, n, keys, ok)
		}
	}
	if n, keys, ok := ask.Size(nil, ""); n != 0 || keys != nil || ok {
		t.Errorf("Size of nil: %d", n)
	}
	if n, keys, ok := ask.Size(read(t, "{}"), ""); n != 0 || len(keys) != 0 || !ok {
		t.Errorf("Size of an object without members: %d, %v", n, ok)
	}
}

func TestAll(t *testing.T) {
	var got []string
	for p := range ask.All(read(t, example), api.WantScalar) {
		got = append(got, p)
	}
	if !slices.Equal(got, []string{"/a/0", "/a/1", "/b"}) {
		t.Errorf("All: %q", got)
	}
	tree := read(t, all)
	counts := map[int]int{}
	for want := -1; want <= api.WantLost+1; want++ {
		var pointers []string
		for p, r := range pointer.All(tree) {
			if holds(r.Value(), want) {
				pointers = append(pointers, p)
			}
		}
		each := ask.All(tree, want)
		for range 2 {
			i := 0
			for p, v := range each {
				if i == len(pointers) || p != pointers[i] || !reflect.DeepEqual(v, pointer.Look(tree, p)) {
					t.Fatalf("All of %d: %q", want, p)
				}
				i++
			}
			if counts[want] = i; i != len(pointers) {
				t.Fatalf("All of %d: %d", want, i)
			}
		}
		for range ask.All(nil, want) {
			t.Fatal("All of nil")
		}
	}
	nodes, _, _ := tree.Size()
	if counts[api.WantValue] != nodes || counts[api.WantScalar]+counts[api.WantGroup] != nodes || counts[api.WantLost]+counts[0]+counts[12] != 0 || counts[api.WantKeyed] != 5 {
		t.Errorf("%v of %d", counts, nodes)
	}
	n := 0
	for range ask.All(tree, api.WantValue) {
		if n++; n == 3 {
			break
		}
	}
	if n != 3 {
		t.Errorf("left behind %d", n)
	}
}

func TestToldAnew(t *testing.T) {
	tree := read(t, example)
	v, _ := ask.Tell(tree, "/a", api.WantGroup)
	v.(api.List)[0] = api.Text("spoilt")
	_, keys, _ := ask.Size(tree, "")
	keys[0] = "spoilt"
	for p, v := range ask.All(tree, api.WantList) {
		if !reflect.DeepEqual(v, api.List{api.Number(1), api.Null{}}) {
			t.Errorf("All at %q: %v", p, v)
		}
		v.(api.List)[1] = api.Text("spoilt")
	}
	if !reflect.DeepEqual(tree.Value(), read(t, example).Value()) {
		t.Error("a tree has changed")
	}
	if _, keys, _ := ask.Size(tree, ""); !slices.Equal(keys, []string{"a", "b"}) {
		t.Errorf("Keys are shared: %q", keys)
	}
}

func TestAtOneTime(t *testing.T) {
	tree := read(t, all)
	var group sync.WaitGroup
	for i := range 4 {
		group.Go(func() {
			r := rand.New(rand.NewSource(int64(i)))
			for range 500 {
				p, w, f := places[r.Intn(len(places))], 1+r.Intn(11), 1+r.Intn(4)
				if h, err := ask.Ask(tree, p, w, f); h != heard(pointer.Look(tree, p), w, f) || err != nil {
					t.Errorf("Ask(%q, %d, %d): %v, %v", p, w, f, h, err)
				}
			}
		})
	}
	group.Wait()
}
