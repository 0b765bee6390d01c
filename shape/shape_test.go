package shape_test

import (
	"fmt"
	"math"
	"math/big"
	"math/rand"
	"reflect"
	"slices"
	"strconv"
	"strings"
	"sync"
	"sync/atomic"
	"testing"
	"unicode/utf8"

	"affidavit/api"
	"affidavit/canon"
	"affidavit/node"
	"affidavit/parse"
	"affidavit/pointer"
	"affidavit/shape"
)

func read(t testing.TB, s string) *node.Tree {
	t.Helper()
	tree, err := parse.Read([]byte(s), api.MaxDepth)
	if err != nil {
		t.Fatalf("%.80s: %v", s, err)
	}
	return tree
}

func form(tree *node.Tree) string {
	b, _ := canon.Bytes(tree)
	return string(b)
}

func made(t testing.TB, s string) *shape.Shape {
	t.Helper()
	sh, err := shape.New(read(t, s))
	if err != nil {
		t.Fatalf("New(%.80s): %v", s, err)
	}
	return sh
}

// faults are the faults that are written as number and pointer.
func faults(l ...any) api.All {
	var out api.All
	for i := 0; i < len(l); i += 2 {
		out = append(out, api.Trail{Err: l[i].(api.Errno), Pointer: l[i+1].(string)})
	}
	return out
}

func TestNewErrors(t *testing.T) {
	for s, want := range map[string]api.Trail{
		"1": {Err: api.ErrShape}, `{"least":"x"}`: {Err: api.ErrShape, Pointer: "/least"}, `{"x":1}`: {Err: api.ErrShape, Pointer: "/x"}, `{"any":[true,3]}`: {Err: api.ErrShape, Pointer: "/any/1"}, `{"use":"a"}`: {Err: api.ErrName, Pointer: "/use"}, `{"let":{"a":{"not":{"use":"a"}}}}`: {Err: api.ErrLoop, Pointer: "/let/a"}, `{"items":{"let":{}}}`: {Err: api.ErrShape, Pointer: "/items/let"}, `{"few":1.5}`: {Err: api.ErrShape, Pointer: "/few"}, `{"multiple":0}`: {Err: api.ErrShape, Pointer: "/multiple"},
		"null": {Err: api.ErrShape}, "[]": {Err: api.ErrShape}, `"x"`: {Err: api.ErrShape}, `{"all":{}}`: {Err: api.ErrShape, Pointer: "/all"}, `{"all":[[]]}`: {Err: api.ErrShape, Pointer: "/all/0"}, `{"among":{}}`: {Err: api.ErrShape, Pointer: "/among"}, `{"begins":1}`: {Err: api.ErrShape, Pointer: "/begins"}, `{"ends":null}`: {Err: api.ErrShape, Pointer: "/ends"}, `{"has":[]}`: {Err: api.ErrShape, Pointer: "/has"}, `{"contains":1}`: {Err: api.ErrShape, Pointer: "/contains"}, `{"else":1}`: {Err: api.ErrShape, Pointer: "/else"}, `{"then":1}`: {Err: api.ErrShape, Pointer: "/then"}, `{"when":[]}`: {Err: api.ErrShape, Pointer: "/when"}, `{"many":-1}`: {Err: api.ErrShape, Pointer: "/many"}, `{"long":9007199254740994}`: {Err: api.ErrShape, Pointer: "/long"}, `{"short":"1"}`: {Err: api.ErrShape, Pointer: "/short"}, `{"first":true}`: {Err: api.ErrShape, Pointer: "/first"}, `{"items":[]}`: {Err: api.ErrShape, Pointer: "/items"}, `{"keys":"x"}`: {Err: api.ErrShape, Pointer: "/keys"}, `{"let":[]}`: {Err: api.ErrShape, Pointer: "/let"}, `{"let":{"a":1}}`: {Err: api.ErrShape, Pointer: "/let/a"}, `{"let":{"a":{"let":{}}}}`: {Err: api.ErrShape, Pointer: "/let/a/let"}, `{"members":true}`: {Err: api.ErrShape, Pointer: "/members"}, `{"members":{"a/b":0}}`: {Err: api.ErrShape, Pointer: "/members/a~1b"}, `{"multiple":-1}`: {Err: api.ErrShape, Pointer: "/multiple"}, `{"need":"a"}`: {Err: api.ErrShape, Pointer: "/need"}, `{"need":["a",1]}`: {Err: api.ErrShape, Pointer: "/need/1"}, `{"not":[]}`: {Err: api.ErrShape, Pointer: "/not"}, `{"one":{}}`: {Err: api.ErrShape, Pointer: "/one"}, `{"others":0}`: {Err: api.ErrShape, Pointer: "/others"}, `{"sort":"int"}`: {Err: api.ErrShape, Pointer: "/sort"}, `{"sort":1}`: {Err: api.ErrShape, Pointer: "/sort"}, `{"sort":["text","x"]}`: {Err: api.ErrShape, Pointer: "/sort/1"}, `{"sort":["x",1]}`: {Err: api.ErrShape, Pointer: "/sort/0"}, `{"sort":[1,"x"]}`: {Err: api.ErrShape, Pointer: "/sort/0"}, `{"unique":1}`: {Err: api.ErrShape, Pointer: "/unique"}, `{"use":1}`: {Err: api.ErrShape, Pointer: "/use"}, `{"All":[]}`: {Err: api.ErrShape, Pointer: "/All"}, `{"":true}`: {Err: api.ErrShape, Pointer: "/"}, `{"above":null}`: {Err: api.ErrShape, Pointer: "/above"}, `{"below":"1"}`: {Err: api.ErrShape, Pointer: "/below"}, `{"most":true}`: {Err: api.ErrShape, Pointer: "/most"},
		`{"z":1,"all":[{"y":1}],"use":"q"}`: {Err: api.ErrShape, Pointer: "/all/0/y"}, `{"any":[{"use":"a"}],"not":3}`: {Err: api.ErrShape, Pointer: "/not"}, `{"not":{"use":"a"},"any":[{"use":"b"}],"let":{"a":{"use":"a"}}}`: {Err: api.ErrName, Pointer: "/any/0/use"}, `{"let":{"a":{"use":"c"}},"use":"b"}`: {Err: api.ErrName, Pointer: "/let/a/use"}, `{"others":{"use":"a"},"members":{"x":{"use":"b"}}}`: {Err: api.ErrName, Pointer: "/members/x/use"}, `{"let":{"a":true},"use":""}`: {Err: api.ErrName, Pointer: "/use"},
		`{"let":{"a":{"use":"b"},"b":{"use":"a"}}}`: {Err: api.ErrLoop, Pointer: "/let/a"}, `{"let":{"a":{"use":"b"},"b":{"all":[true,{"use":"b"}]}}}`: {Err: api.ErrLoop, Pointer: "/let/b"}, `{"let":{"a":{"then":{"use":"a"}}}}`: {Err: api.ErrLoop, Pointer: "/let/a"}, `{"let":{"a":{"else":{"use":"a"}}}}`: {Err: api.ErrLoop, Pointer: "/let/a"}, `{"let":{"a":{"when":{"any":[{"one":[{"use":"a"}]}]}}}}`: {Err: api.ErrLoop, Pointer: "/let/a"}, `{"let":{"a":{"items":{"not":{"use":"b"}}},"b":{"use":"c"},"c":{"use":"b"}},"use":"a"}`: {Err: api.ErrLoop, Pointer: "/let/b"}, `{"let":{"a":{"any":[{"use":"b"},{"use":"c"}]},"b":{"use":"d"},"c":{"use":"c"},"d":true}}`: {Err: api.ErrLoop, Pointer: "/let/c"}, `{"let":{"x":{"use":"y"},"y":{"items":{"use":"z"}},"z":{"all":[{"use":"x"},{"use":"z"}]}}}`: {Err: api.ErrLoop, Pointer: "/let/z"},
	} {
		if s, err := shape.New(read(t, s)); s != nil || err != want {
			t.Errorf("New(%v): %v, want %v", s, err, want)
		}
	}
	if s, err := shape.New(nil); s != nil || err != api.ErrNil {
		t.Errorf("New of nil: %v", err)
	}
	for _, s := range []string{`{"let":{"a":{"items":{"use":"a"}}},"use":"a"}`, `{"sort":[]}`, "true", "false", "{}", `{"is":{"x":[{"let":1}]},"among":[{"few":"x"}]}`, `{"few":9007199254740992,"many":0}`, `{"let":{"":true},"use":""}`, `{"let":{"a":{"members":{"x":{"use":"a"}},"others":{"use":"a"},"first":[{"use":"a"}],"contains":{"use":"a"},"keys":{"use":"b"}},"b":{"has":"x"}},"all":[{"use":"a"},{"use":"a"}]}`, `{"let":{"a":{"any":[{"use":"b"},{"use":"c"}]},"b":{"use":"d"},"c":{"use":"d"},"d":{"use":"e"},"e":{}}}`, `{"members":{"let":true,"x":{}}}`} {
		made(t, s)
	}
}

func TestExamples(t *testing.T) {
	for _, c := range []struct {
		shape, value string
		want         api.All
	}{
		{`{"sort":["whole","null"]}`, "3", nil}, {`{"sort":["whole","null"]}`, "3.5", faults(api.ErrSorts, "")}, {`{"sort":["whole","null"]}`, "null", nil}, {`{"sort":["whole","null"]}`, `"3"`, faults(api.ErrSorts, "")}, {`{"sort":[]}`, "null", faults(api.ErrSorts, "")},
		{`{"multiple":0.1}`, "0.3", faults(api.ErrBound, "")}, {`{"multiple":0.1}`, "0.1", nil}, {`{"multiple":0.1}`, "0", nil}, {`{"multiple":0.1}`, "-0.2", nil}, {`{"multiple":3}`, "9007199254740992", faults(api.ErrBound, "")}, {`{"multiple":5e-324}`, "1e308", nil}, {`{"multiple":1e308}`, "5e-324", faults(api.ErrBound, "")}, {`{"multiple":2.5}`, `"x"`, nil},
		{`{"sort":"text","long":1}`, "5", faults(api.ErrSorts, "")}, {`{"sort":"text","long":1}`, `"é"`, nil}, {`{"sort":"text","long":1}`, `"ab"`, faults(api.ErrLength, "")},
		{`{"need":["a","b"],"others":false,"members":{"a":true}}`, `{"c":1}`, faults(api.ErrNeed, "/a", api.ErrNeed, "/b", api.ErrMix, "/c")},
		{`{"when":{"sort":"list"},"then":{"many":1},"else":{"is":0}}`, "[]", nil}, {`{"when":{"sort":"list"},"then":{"many":1},"else":{"is":0}}`, "[1,2]", faults(api.ErrMany, "")}, {`{"when":{"sort":"list"},"then":{"many":1},"else":{"is":0}}`, "1", faults(api.ErrIs, "")}, {`{"then":false,"else":false}`, "1", nil}, {`{"when":true}`, "1", nil}, {`{"when":true,"else":false}`, "1", nil}, {`{"when":false,"then":false}`, "1", nil}, {`{"when":false,"else":false}`, "1", faults(api.ErrMix, "")},
		{`{"let":{"t":{"first":[true],"items":{"use":"t"}}},"use":"t"}`, "[1,[2,[3]]]", nil}, {`{"items":false}`, "[1,[2]]", faults(api.ErrMix, "/0", api.ErrMix, "/1")}, {`{"one":[{"least":1},{"most":1}]}`, "0", nil}, {`{"one":[{"least":1},{"most":1}]}`, "1", faults(api.ErrMix, "")}, {`{"one":[{"least":1},{"most":1}]}`, "2", nil}, {`{"one":[{"least":1},{"most":1}]}`, `"x"`, faults(api.ErrMix, "")},
		{`{"keys":{"long":1},"unique":true}`, `{"ab":1}`, faults(api.ErrNeed, "/ab")}, {`{"keys":{"long":1},"unique":true}`, "[1,1.0]", faults(api.ErrMany, "")}, {`{"unique":false}`, "[1,1]", nil}, {`{"unique":true}`, `[1,"1",[1],{"a":1},[1,1],{}]`, nil}, {`{"unique":true}`, `[{"a":[]},1,{"a":[]}]`, faults(api.ErrMany, "")}, {"false", "1", faults(api.ErrMix, "")}, {"true", "1", nil}, {"{}", "1", nil}, {`{"one":[true,true]}`, "1", faults(api.ErrMix, "")}, {`{"one":[]}`, "1", faults(api.ErrMix, "")}, {`{"any":[]}`, "1", faults(api.ErrMix, "")}, {`{"all":[]}`, "1", nil}, {`{"one":[true,false]}`, "1", nil},
		{`{"above":1}`, "1", faults(api.ErrBound, "")}, {`{"below":1}`, "1", faults(api.ErrBound, "")}, {`{"least":1}`, "1", nil}, {`{"most":1}`, "1", nil}, {`{"above":1,"below":3}`, "2", nil}, {`{"least":2,"most":1}`, "1.5", faults(api.ErrBound, "", api.ErrBound, "")}, {`{"begins":"ab","ends":"bc","has":"x"}`, `"abc"`, faults(api.ErrLength, "")}, {`{"begins":"é"}`, `"éa"`, nil}, {`{"begins":"b","ends":"a","has":"é"}`, `"ab"`, faults(api.ErrLength, "", api.ErrLength, "", api.ErrLength, "")}, {`{"short":2}`, `"😀"`, faults(api.ErrLength, "")}, {`{"short":1,"long":1}`, `"😀"`, nil}, {`{"few":1}`, "[]", faults(api.ErrMany, "")}, {`{"few":1}`, `{"a":1}`, nil}, {`{"many":1}`, `{"a":1,"b":2}`, faults(api.ErrMany, "")}, {`{"few":9,"many":0,"long":0,"short":9}`, "1", nil}, {`{"few":9,"many":0}`, `"x"`, nil}, {`{"long":0}`, "[1]", nil},
		{`{"contains":{"is":1}}`, "[2,1]", nil}, {`{"contains":{"is":1}}`, "[2]", faults(api.ErrMany, "")}, {`{"contains":{"is":1}}`, "[]", faults(api.ErrMany, "")}, {`{"contains":false}`, `{"a":1}`, nil}, {`{"is":[1.0,{"a":null}]}`, `[1,{"a":null}]`, nil}, {`{"among":[1,[2]]}`, "[2]", nil}, {`{"among":[]}`, "1", faults(api.ErrIs, "")}, {`{"is":1}`, `"1"`, faults(api.ErrIs, "")}, {`{"not":{"is":1}}`, "1", faults(api.ErrMix, "")}, {`{"not":{"is":1}}`, "2", nil}, {`{"not":false}`, "1", nil},
		{`{"first":[{"is":1},false,{"is":3}],"items":{"is":9}}`, "[2,2,3,9,8]", faults(api.ErrIs, "/0", api.ErrMix, "/1", api.ErrIs, "/4")}, {`{"first":[{"is":1}]}`, "[]", nil}, {`{"first":[false]}`, `{"0":1}`, nil}, {`{"items":false}`, `{"0":1}`, nil}, {`{"members":{"b":false,"a":{"is":2}},"others":{"sort":"text"}}`, `{"a":1,"b":1,"c":1,"d":"x"}`, faults(api.ErrIs, "/a", api.ErrMix, "/b", api.ErrSorts, "/c")}, {`{"others":false}`, `{"a~/":1}`, faults(api.ErrMix, "/a~0~1")}, {`{"others":false,"members":{"0":false},"need":["a"],"keys":false}`, "[1]", nil}, {`{"need":["b","a","b"]}`, "{}", faults(api.ErrNeed, "/b", api.ErrNeed, "/a", api.ErrNeed, "/b")}, {`{"keys":{"has":"a"}}`, `{"\uff61":1,"a":1,"😀":1}`, faults(api.ErrNeed, "/😀", api.ErrNeed, "/\uff61")}, {`{"keys":{"sort":"text","unique":true}}`, `{"":1}`, nil},
		{`{"all":[{"is":1},{"sort":"text"},{"is":1}]}`, "2", faults(api.ErrIs, "", api.ErrSorts, "", api.ErrIs, "")}, {`{"let":{"a":{"is":1}},"use":"a","all":[{"use":"a"}]}`, "2", faults(api.ErrIs, "", api.ErrIs, "")}, {`{"let":{"a":false}}`, "1", nil},
	} {
		checkAll(t, made(t, c.shape), c.shape, read(t, c.value), c.want)
	}
}

// checkAll holds Has, Check, First and At of the whole against the faults.
func checkAll(t *testing.T, s *shape.Shape, what string, v *node.Tree, want api.All) {
	t.Helper()
	var all, first error
	if len(want) > 0 {
		all, first = want[:min(len(want), api.MaxFaults)], want[0]
	}
	if has := s.Has(v); has != (len(want) == 0) {
		t.Fatalf("%s: Has(%s): %v", what, form(v), has)
	}
	if err := s.Check(v); !reflect.DeepEqual(err, all) {
		t.Fatalf("%s: Check(%s): %v, want %v", what, form(v), err, want)
	}
	if err := s.First(v); err != first {
		t.Fatalf("%s: First(%s): %v, want %v", what, form(v), err, first)
	}
	if err := s.At("", v, ""); !reflect.DeepEqual(err, all) {
		t.Fatalf("%s: At(%s): %v, want %v", what, form(v), err, want)
	}
}

// judge has a shape's let, and finds the faults of values by the words of the document.
type judge struct{ let api.Value }

func get(v api.Value, key string) api.Value {
	o, _ := v.(api.Object)
	for _, m := range o {
		if m.Key == key {
			return m.Value
		}
	}
	return nil
}

func below(p, token string) string {
	s, _ := pointer.Down(p, token)
	return s
}

func (j judge) faults(s, v api.Value, p string) api.All {
	var out api.All
	if f, ok := s.(api.Flag); ok {
		if !f {
			out = faults(api.ErrMix, p)
		}
		return out
	}
	for _, w := range s.(api.Object) {
		out = append(out, j.word(w.Key, w.Value, v, p, s)...)
	}
	return out
}

func (j judge) has(s, v api.Value) bool { return len(j.faults(s, v, "")) == 0 }

func (j judge) count(l api.Value, v api.Value) int {
	n := 0
	for _, s := range l.(api.List) {
		if j.has(s, v) {
			n++
		}
	}
	return n
}

// unless is the fault, unless all is well.
func unless(well bool, e api.Errno, p string) api.All {
	if well {
		return nil
	}
	return faults(e, p)
}

func (j judge) word(key string, w, v api.Value, p string, s api.Value) api.All {
	x, isNumber := v.(api.Number)
	text, isText := v.(api.Text)
	list, isList := v.(api.List)
	object, isObject := v.(api.Object)
	bound, _ := w.(api.Number)
	what, _ := w.(api.Text)
	size, sized := 0, isList || isObject
	if g, ok := v.(api.Group); ok {
		size = g.Len()
	}
	length := utf8.RuneCountInString(string(text))
	switch key {
	case "above":
		return unless(!isNumber || x > bound, api.ErrBound, p)
	case "below":
		return unless(!isNumber || x < bound, api.ErrBound, p)
	case "least":
		return unless(!isNumber || x >= bound, api.ErrBound, p)
	case "most":
		return unless(!isNumber || x <= bound, api.ErrBound, p)
	case "multiple":
		return unless(!isNumber || isMultiple(float64(x), float64(bound)), api.ErrBound, p)
	case "begins":
		return unless(!isText || strings.HasPrefix(string(text), string(what)), api.ErrLength, p)
	case "ends":
		return unless(!isText || strings.HasSuffix(string(text), string(what)), api.ErrLength, p)
	case "has":
		return unless(!isText || strings.Contains(string(text), string(what)), api.ErrLength, p)
	case "long":
		return unless(!isText || float64(length) <= float64(bound), api.ErrLength, p)
	case "short":
		return unless(!isText || float64(length) >= float64(bound), api.ErrLength, p)
	case "few":
		return unless(!sized || float64(size) >= float64(bound), api.ErrMany, p)
	case "many":
		return unless(!sized || float64(size) <= float64(bound), api.ErrMany, p)
	case "is":
		return unless(reflect.DeepEqual(w, v), api.ErrIs, p)
	case "among":
		return unless(slices.ContainsFunc(w.(api.List), func(u api.Value) bool { return reflect.DeepEqual(u, v) }), api.ErrIs, p)
	case "sort":
		return unless(isSort(w, v), api.ErrSorts, p)
	case "unique":
		return unless(!isList || w == api.Flag(false) || isUnique(list), api.ErrMany, p)
	case "any":
		return unless(j.count(w, v) > 0, api.ErrMix, p)
	case "one":
		return unless(j.count(w, v) == 1, api.ErrMix, p)
	case "not":
		return unless(!j.has(w, v), api.ErrMix, p)
	case "contains":
		return unless(!isList || slices.ContainsFunc(list, func(u api.Value) bool { return j.has(w, u) }), api.ErrMany, p)
	case "use":
		return j.faults(get(j.let, string(what)), v, p)
	case "when":
		s = get(s, map[bool]string{true: "then", false: "else"}[j.has(w, v)])
		if s == nil {
			return nil
		}
		return j.faults(s, v, p)
	}
	return j.within(key, w, v, p, s, list, object)
}

// within are the faults of the words that ask something of the values within.
func (j judge) within(key string, w, v api.Value, p string, s api.Value, list api.List, object api.Object) api.All {
	var out api.All
	switch key {
	case "all":
		for _, s := range w.(api.List) {
			out = append(out, j.faults(s, v, p)...)
		}
	case "first", "items":
		n := 0
		if l, ok := get(s, "first").(api.List); ok {
			n = len(l)
		}
		for i, u := range list {
			if key == "items" && i >= n {
				out = append(out, j.faults(w, u, below(p, strconv.Itoa(i)))...)
			} else if key == "first" && i < n {
				out = append(out, j.faults(w.(api.List)[i], u, below(p, strconv.Itoa(i)))...)
			}
		}
	case "members":
		for _, m := range w.(api.Object) {
			if u := get(object, m.Key); u != nil {
				out = append(out, j.faults(m.Value, u, below(p, m.Key))...)
			}
		}
	case "others":
		for _, m := range object {
			if get(get(s, "members"), m.Key) == nil {
				out = append(out, j.faults(w, m.Value, below(p, m.Key))...)
			}
		}
	case "keys":
		for _, m := range object {
			out = append(out, unless(j.has(w, api.Text(m.Key)), api.ErrNeed, below(p, m.Key))...)
		}
	case "need":
		if _, ok := v.(api.Object); !ok {
			return nil
		}
		for _, k := range w.(api.List) {
			out = append(out, unless(get(object, string(k.(api.Text))) != nil, api.ErrNeed, below(p, string(k.(api.Text))))...)
		}
	}
	return out
}

func isMultiple(x, of float64) bool {
	q := new(big.Rat).Quo(new(big.Rat).SetFloat64(x), new(big.Rat).SetFloat64(of))
	return q.IsInt()
}

func isUnique(l api.List) bool {
	for i := range l {
		for k := range i {
			if reflect.DeepEqual(l[i], l[k]) {
				return false
			}
		}
	}
	return true
}

func isSort(w, v api.Value) bool {
	if l, ok := w.(api.List); ok {
		return slices.ContainsFunc(l, func(w api.Value) bool { return isSort(w, v) })
	}
	x, isNumber := v.(api.Number)
	if w == api.Text("whole") {
		return isNumber && x == api.Number(math.Trunc(float64(x)))
	}
	return w == api.Text([]string{"", "null", "flag", "number", "text", "list", "object"}[v.Sort()])
}

// randomShape is a shape, as a document; names are those that it may use here.
func randomShape(r *rand.Rand, depth int, names []string) string {
	if depth == 0 || r.Intn(8) == 0 {
		return []string{"true", "false", "{}"}[r.Intn(3)]
	}
	inner := func() string { return randomShape(r, depth-1, names) }
	list := func() string {
		var l []string
		for range r.Intn(3) {
			l = append(l, inner())
		}
		return "[" + strings.Join(l, ",") + "]"
	}
	words := map[string]string{}
	for range 1 + r.Intn(3) {
		switch r.Intn(12) {
		case 0:
			words[[]string{"above", "below", "least", "most"}[r.Intn(4)]] = []string{"0", "1", "0.5"}[r.Intn(3)]
		case 1:
			words["multiple"] = []string{"1", "0.5", "0.1"}[r.Intn(3)]
			words[[]string{"begins", "ends", "has"}[r.Intn(3)]] = []string{`"a"`, `""`, `"é"`}[r.Intn(3)]
		case 2:
			words[[]string{"few", "many", "long", "short"}[r.Intn(4)]] = strconv.Itoa(r.Intn(3))
		case 3:
			words["sort"] = []string{`"text"`, `"whole"`, `["list","object","number"]`, `["null","flag"]`}[r.Intn(4)]
		case 4:
			words["is"], words["among"] = value(r, 2), "["+value(r, 2)+","+value(r, 1)+",1,\"a\"]"
			delete(words, []string{"is", "among"}[r.Intn(2)])
		case 5:
			words["need"], words["unique"] = []string{`["a"]`, `["b","a"]`, `[]`}[r.Intn(3)], []string{"true", "false"}[r.Intn(2)]
		case 6:
			words[[]string{"all", "any", "one", "first"}[r.Intn(4)]] = list()
		case 7:
			words[[]string{"not", "items", "keys", "others", "contains"}[r.Intn(5)]] = inner()
		case 8:
			words["when"], words["then"], words["else"] = inner(), inner(), inner()
			delete(words, []string{"when", "then", "else", ""}[r.Intn(4)])
		case 9:
			words["members"] = `{"a":` + inner() + `,"\uff61":` + inner() + `}`
		case 10:
			words["items"], words["others"] = inner(), inner()
		case 11:
			if len(names) > 0 {
				words["use"] = strconv.Quote(names[r.Intn(len(names))])
			}
		}
	}
	var l []string
	for k, v := range words {
		l = append(l, strconv.Quote(k)+":"+v)
	}
	return "{" + strings.Join(l, ",") + "}"
}

// value is a value, as a document.
func value(r *rand.Rand, depth int) string {
	k := r.Intn(9)
	if depth == 1 {
		k = r.Intn(5)
	}
	var l []string
	switch {
	case k > 6:
		for _, key := range []string{"a", "b", "\uff61", "😀"} {
			if r.Intn(2) == 0 {
				l = append(l, strconv.Quote(key)+":"+value(r, depth-1))
			}
		}
		return "{" + strings.Join(l, ",") + "}"
	case k > 4:
		for range r.Intn(4) {
			l = append(l, value(r, depth-1))
		}
		return "[" + strings.Join(l, ",") + "]"
	}
	return [][]string{{"null", "true", "false"}, {"0", "1", "2"}, {"0.5", "0.3", "-1"}, {`"a"`, `""`, `"éa"`}, {"1", `"a"`, "null"}}[k][r.Intn(3)]
}

func TestAgainstJudge(t *testing.T) {
	r := rand.New(rand.NewSource(1))
	has, not := 0, 0
	for range 8000 {
		s := randomShape(r, 4, nil)
		var let string
		if r.Intn(2) == 0 && strings.HasPrefix(s, "{") {
			// b may use a, c both: so nothing leads back but by values within.
			let = `{"a":` + randomShape(r, 3, nil) + `,"b":` + randomShape(r, 3, []string{"a"}) + `,"c":` + randomShape(r, 3, []string{"a", "b"}) + `,"l":{"items":{"use":"l"},"many":2,"others":{"use":"c"}}}`
			s = `{"let":` + let + `,"all":[` + randomShape(r, 3, []string{"a", "b", "c", "l"}) + "," + s + "]}"
		}
		sh := made(t, s)
		j := judge{get(read(t, s).Value(), "let")}
		for range 4 {
			v := read(t, value(r, 4))
			want := j.faults(read(t, s).Value(), v.Value(), "")
			if len(want) > 0 {
				not++
			} else {
				has++
			}
			checkAll(t, sh, s, v, want)
			checkNames(t, r, sh, j, v)
		}
		again, err := shape.New(sh.Tree())
		if err != nil || form(again.Tree()) != form(read(t, s)) {
			t.Fatalf("New of Tree of %s: %v", s, err)
		}
	}
	if has < 5000 || not < 5000 {
		t.Errorf("%d have it, %d have not", has, not)
	}
}

// checkNames asks At of the shapes that let names, and somewhere within the value.
func checkNames(t *testing.T, r *rand.Rand, sh *shape.Shape, j judge, v *node.Tree) {
	t.Helper()
	var all []string
	for p := range pointer.All(v) {
		all = append(all, p)
	}
	p := all[r.Intn(len(all))]
	for _, name := range sh.Names() {
		want := j.faults(get(j.let, name), pointer.Look(v, p), p)
		err := sh.At(name, v, p)
		if len(want) == 0 && err != nil || len(want) > 0 && !reflect.DeepEqual(err, error(want)) {
			t.Fatalf("At(%s, %s, %s): %v, want %v", name, form(v), p, err, want)
		}
	}
}

// TestLaws: P19.6.
func TestLaws(t *testing.T) {
	r := rand.New(rand.NewSource(2))
	for range 1500 {
		a, b := randomShape(r, 3, nil), randomShape(r, 3, nil)
		v := read(t, value(r, 4))
		hasA, hasB := made(t, a).Has(v), made(t, b).Has(v)
		for what, want := range map[string]bool{`{"all":[` + a + "," + b + "]}": hasA && hasB, `{"any":[` + a + "," + b + "]}": hasA || hasB, `{"not":` + a + "}": !hasA, `{"one":[` + a + "," + b + "]}": hasA != hasB} {
			if made(t, what).Has(v) != want {
				t.Fatalf("%s: %s", what, form(v))
			}
		}
		if v.Root().Sort() != api.SortList {
			continue
		}
		want := true
		for _, u := range v.Root().All() {
			want = want && made(t, a).Has(u.Tree())
		}
		if made(t, `{"items":`+a+"}").Has(v) != want {
			t.Fatalf("items %s: %s", a, form(v))
		}
	}
}

func TestAtAndNames(t *testing.T) {
	s := made(t, `{"let":{"b":{"items":{"is":1}},"a":{"sort":"text"},"😀":true,"\uff61":false},"is":0}`)
	if names := s.Names(); !slices.Equal(names, []string{"a", "b", "😀", "\uff61"}) {
		t.Errorf("Names: %q", names)
	}
	s.Names()[0] = "spoilt"
	if s.Names()[0] != "a" || len(made(t, "true").Names()) != 0 || len(made(t, "{}").Names()) != 0 {
		t.Error("Names")
	}
	v := read(t, `{"x":[1,2,[3]],"y":"z"}`)
	for _, c := range []struct {
		name, p string
		want    error
	}{
		{"b", "/x", faults(api.ErrIs, "/x/1", api.ErrIs, "/x/2")}, {"a", "/y", nil}, {"a", "/x/0", faults(api.ErrSorts, "/x/0")}, {"", "/y", faults(api.ErrIs, "/y")}, {"c", "q", api.ErrName}, {"b", "q", api.Spot{Err: api.ErrPointer}}, {"b", "/q/r", api.Trail{Err: api.ErrNone}}, {"\uff61", "", faults(api.ErrMix, "")}, {"b", "/x/2", faults(api.ErrIs, "/x/2/0")}, {"\xFF", "", api.ErrName},
	} {
		if err := s.At(c.name, v, c.p); !reflect.DeepEqual(err, c.want) {
			t.Errorf("At(%s, %s): %v, want %v", c.name, c.p, err, c.want)
		}
	}
	var none *shape.Shape
	if none.Tree() != nil || none.Names() != nil || none.Has(v) || none.Check(v) != api.ErrNil || none.First(v) != api.ErrNil || none.At("q", v, "q") != api.ErrNil {
		t.Error("calls of nil")
	}
	if s.Has(nil) || s.Check(nil) != api.ErrNil || s.First(nil) != api.ErrNil || s.At("q", nil, "q") != api.ErrNil {
		t.Error("of no tree")
	}
	named := made(t, `{"let":{"":false},"use":""}`)
	if err := named.At("", read(t, "1"), ""); !reflect.DeepEqual(err, error(faults(api.ErrMix, ""))) {
		t.Errorf("the empty name is the whole shape: %v", err)
	}
}

func TestMaxFaults(t *testing.T) {
	for _, n := range []int{1, 255, 256, 257, 5000} {
		v := read(t, "["+strings.TrimSuffix(strings.Repeat("1,", n), ",")+"]")
		all, _ := made(t, `{"items":false}`).Check(v).(api.All)
		if len(all) != min(n, api.MaxFaults) || all[len(all)-1] != (api.Trail{Err: api.ErrMix, Pointer: "/" + strconv.Itoa(len(all)-1)}) {
			t.Errorf("%d faults: %d", n, len(all))
		}
	}
}

// TestManyWays: what was found of a value once is not looked for again and again.
func TestManyWays(t *testing.T) {
	s := made(t, `{"let":{"t":{"any":[{"items":{"use":"t"}},{"items":{"use":"t"}},{"items":{"use":"t"}}],"all":[{"items":{"use":"t"}},{"items":{"use":"t"}}]}},"use":"t"}`)
	deep := strings.Repeat("[", 400) + strings.Repeat("]", 400)
	if !s.Has(read(t, deep)) || s.Check(read(t, deep)) != nil {
		t.Error("a deep list")
	}
	s = made(t, `{"let":{"t":{"sort":"list","one":[{"items":{"use":"t"}},{"contains":{"not":{"use":"t"}}}],"items":{"use":"t"}}},"use":"t"}`)
	wrong := strings.Repeat("[", 300) + "1" + strings.Repeat("]", 300)
	if s.Has(read(t, wrong)) || s.First(read(t, wrong)) == nil {
		t.Error("a deep list with a number")
	}
	var let strings.Builder
	for i := range 3000 {
		fmt.Fprintf(&let, `"%d":{"use":"%d"},`, i, i+1)
	}
	if !made(t, `{"let":{`+let.String()+`"3000":true},"use":"0"}`).Has(read(t, "1")) {
		t.Error("a long way of names")
	}
	if _, err := shape.New(read(t, `{"let":{`+let.String()+`"3000":{"use":"2999"}}}`)); err != (api.Trail{Err: api.ErrLoop, Pointer: "/let/2999"}) {
		t.Errorf("a loop at the end: %v", err)
	}
	list := "[" + strings.TrimSuffix(strings.Repeat(`"x",`, 30000), ",") + "]"
	if made(t, `{"unique":true}`).Has(read(t, list)) {
		t.Error("a long list of one text")
	}
}

func TestShared(t *testing.T) {
	s := made(t, `{"let":{"t":{"any":[{"sort":"text"},{"sort":"list","items":{"use":"t"}}]}},"use":"t"}`)
	good, bad := read(t, `["a",["b",[]]]`), read(t, `["a",["b",{"c":1}],1]`)
	want := s.Check(bad)
	var wrong atomic.Int32
	var all sync.WaitGroup
	for range 8 {
		all.Go(func() {
			for range 100 {
				if !s.Has(good) || s.Has(bad) || !reflect.DeepEqual(s.Check(bad), want) {
					wrong.Add(1)
				}
			}
		})
	}
	all.Wait()
	if wrong.Load() > 0 {
		t.Errorf("asked at one time: %d times wrong", wrong.Load())
	}
}
