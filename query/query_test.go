package query_test

import (
	"fmt"
	"math/rand"
	"reflect"
	"slices"
	"strconv"
	"strings"
	"sync"
	"testing"
	"unicode/utf16"

	"affidavit/api"
	"affidavit/canon"
	"affidavit/node"
	"affidavit/parse"
	"affidavit/pointer"
	"affidavit/query"
)

const example = `{"a":[{"x":1},{"x":2},3],"b":{"x":0}}`

func read(t testing.TB, s string) *node.Tree {
	t.Helper()
	tree, err := parse.Read([]byte(s), api.MaxDepth)
	if err != nil {
		t.Fatalf("%.80s: %v", s, err)
	}
	return tree
}

func ask(t testing.TB, s string) *query.Query {
	t.Helper()
	q, err := query.Parse(s)
	if err != nil {
		t.Fatalf("Parse(%.200s): %v", s, err)
	}
	return q
}

func TestPointers(t *testing.T) {
	for _, c := range []struct {
		tree, text string
		want       string
	}{
		{example, "$.a[0].x", "/a/0/x"}, {example, "$..x", "/a/0/x /a/1/x /b/x"}, {example, "$.a[*].x", "/a/0/x /a/1/x"}, {example, `$["a"][-1]`, "/a/2"}, {example, "$.a[0:2]", "/a/0 /a/1"}, {example, "$.a[::-1]", "/a/2 /a/1 /a/0"}, {example, "$.a[1,1]", "/a/1 /a/1"}, {example, "$.a[?@.x > 1]", "/a/1"}, {example, "$.*[?@ == $.a[2]]", "/a/2"}, {example, "$.a[?!@.x]", "/a/2"}, {example, "$.zz", ""}, {example, "$.b[0]", ""}, {example, "$.a.x", ""}, {example, "$.a[9]", ""}, {example, "$.a[-4]", ""}, {example, "$.a[-3]", "/a/0"}, {example, `$.a["0"]`, ""}, {example, "$.*", "/a /b"}, {example, `$["b","a","b"]`, "/b /a /b"},
		{example, "$..*", "/a /b /a/0 /a/1 /a/2 /a/0/x /a/1/x /b/x"}, {example, "$..[0]", "/a/0"}, {example, "$..[?@.x]", "/b /a/0 /a/1"}, {example, "$[?@.x == 0 || @[2] == 3]", "/a /b"}, {example, "$[?@.x == 0 && @[2] == 3]", ""}, {example, "$.a[?@.x <= 1]", "/a/0"}, {example, "$.a[?@.x >= 2]", "/a/1"}, {example, "$.a[?@.x < 2]", "/a/0"}, {example, "$.a[?@.x != 1]", "/a/1 /a/2"}, {example, "$.a[?@.y == @.z]", "/a/0 /a/1 /a/2"}, {example, "$.a[?@.y <= @.z]", "/a/0 /a/1 /a/2"}, {example, "$.a[?@.y != @.z]", ""}, {example, "$.a[?@.y < @.z]", ""}, {example, "$.a[?@ == 3, ?@.x]", "/a/2 /a/0 /a/1"}, {example, `$.a[?!(@.x == 1 || @.x == 2)]`, "/a/2"}, {example, "$.a[?$.b.x == 0]", "/a/0 /a/1 /a/2"}, {example, "$.a[?@ == $.a[0]]", "/a/0"},
		{`[0,1,2,3,4,5]`, "$[1:4]", "/1 /2 /3"}, {`[0,1,2,3,4,5]`, "$[-2:]", "/4 /5"}, {`[0,1,2,3,4,5]`, "$[:-4]", "/0 /1"}, {`[0,1,2,3,4,5]`, "$[4:1:-1]", "/4 /3 /2"}, {`[0,1,2,3,4,5]`, "$[:3:-1]", "/5 /4"}, {`[0,1,2,3,4,5]`, "$[::2]", "/0 /2 /4"}, {`[0,1,2,3,4,5]`, "$[::0]", ""}, {`[0,1,2,3,4,5]`, "$[5:0:-2]", "/5 /3 /1"}, {`[0,1,2,3,4,5]`, "$[1::-1]", "/1 /0"}, {`[0,1,2,3,4,5]`, "$[:-3:-1]", "/5 /4"}, {`[0,1,2,3,4,5]`, "$[9:-9:-1]", "/5 /4 /3 /2 /1 /0"}, {`[0,1,2,3,4,5]`, "$[-9:9]", "/0 /1 /2 /3 /4 /5"}, {`[0,1,2,3,4,5]`, "$[3:3]", ""}, {`[0,1,2,3,4,5]`, "$[4:2]", ""}, {`[0,1,2,3,4,5]`, "$[2:4:-1]", ""}, {`[0,1,2,3,4,5]`, "$[9007199254740991:-9007199254740991:-9007199254740991]", "/5"}, {`[0,1,2,3,4,5]`, "$[:]", "/0 /1 /2 /3 /4 /5"}, {`[]`, "$[::-1]", ""}, {`{"a":1}`, "$[:]", ""}, {`[0,1,2,3,4,5]`, "$[-1:-7:-3]", "/5 /2"},
		{`["a","b","\uff61","😀",1,null,true,false,[1],{}]`, `$[?@ < "b"]`, "/0"}, {`["a","b","\uff61","😀",1,null,true,false,[1],{}]`, `$[?@ > "😀"]`, "/2"}, {`["a","b","\uff61","😀",1,null,true,false,[1],{}]`, `$[?@ >= "b"]`, "/1 /2 /3"}, {`["a","b","\uff61","😀",1,null,true,false,[1],{}]`, `$[?@ == null]`, "/5"}, {`["a","b","\uff61","😀",1,null,true,false,[1],{}]`, `$[?@ == true, ?@ == false]`, "/6 /7"}, {`["a",1,null,[1],{}]`, `$[?@ <= @]`, "/0 /1 /2 /3 /4"}, {`["a",1,null,[1],{}]`, `$[?@ < @]`, ""}, {`[false,true]`, "$[?@ < true]", ""}, {`[null,0,"",false,[],{}]`, "$[?@]", "/0 /1 /2 /3 /4 /5"}, {`[{"a":null}]`, "$[?@.a]", "/0"}, {`[1]`, `$[?@ == 1.0e0]`, "/0"}, {`[0]`, `$[?@ == -0]`, "/0"}, {`[[1,2],[3]]`, "$[?@[-1] == 3]", "/1"}, {`[{"a b":{"c":1}}]`, `$[?@["a b"]["c"] == 1]`, "/0"}, {`{"a~/":[0]}`, `$..[0]`, "/a~0~1/0"}, {`{"é":1}`, `$["\u00e9"]`, "/é"},
	} {
		tree := read(t, c.tree)
		q := ask(t, c.text)
		got, err := q.Pointers(tree)
		if err != nil || !slices.Equal(got, strings.Fields(c.want)) {
			t.Errorf("%s of %s: %q, %v", c.text, c.tree, got, err)
		}
	}
	if got, err := ask(t, "$").Pointers(read(t, example)); err != nil || !slices.Equal(got, []string{""}) {
		t.Errorf("$: %q, %v", got, err)
	}
}

func TestOne(t *testing.T) {
	tree := read(t, example)
	for text, want := range map[string]api.Value{"$.b.x": api.Number(0), "$.zz": &api.Lost{}, "$..x": &api.Lost{At: 3}, "$.a[0]": api.Object{{Key: "x", Value: api.Number(1)}}, "$.a[0,0]": &api.Lost{At: 2}} {
		if v := ask(t, text).One(tree); !reflect.DeepEqual(v, want) {
			t.Errorf("One of %s: %#v", text, v)
		}
	}
	var none *query.Query
	for _, v := range []api.Value{none.One(tree), ask(t, "$").One(nil), none.One(nil)} {
		if l, ok := v.(*api.Lost); v == nil || !ok || l != nil {
			t.Errorf("One of nothing: %#v", v)
		}
	}
}

func TestText(t *testing.T) {
	for text, want := range map[string]string{
		"$": "$", "$.a [0] .. x": `$["a"][0]..["x"]`, "$[?!(@.x==1||@.y)]": `$[?!(@["x"] == 1 || @["y"])]`, "$..a[1:,*]": `$..["a"][1:,*]`, " $ [ 1 : 2 : 1 ] ": "$[1:2]", "$[::]": "$[:]", "$[:2:-3]": "$[:2:-3]", "$[::0]": "$[::0]", `$["\u0061\/\n"]`: `$["a/\n"]`, "$..*": "$..[*]", "$..[*]": "$..[*]", "$.*": "$[*]", "$[-5]": "$[-5]",
		"$[?((@))]": "$[?@]", "$[?(@.a&&@.b)&&@.c]": `$[?@["a"] && @["b"] && @["c"]]`, "$[?(@.a||@.b)||@.c]": `$[?@["a"] || @["b"] || @["c"]]`, "$[?(@.a||@.b)&&@.c]": `$[?(@["a"] || @["b"]) && @["c"]]`, "$[?@.a||@.b&&@.c]": `$[?@["a"] || @["b"] && @["c"]]`, "$[?(@.a&&@.b)||@.c]": `$[?@["a"] && @["b"] || @["c"]]`, "$[?!(@.a&&@.b)]": `$[?!(@["a"] && @["b"])]`, "$[?!(@.a)]": `$[?!@["a"]]`, "$[?!!@.a]": `$[?!!@["a"]]`, "$[?!(!(@.a))]": `$[?!!@["a"]]`, "$[?!@.a==1]": `$[?!@["a"] == 1]`, "$[?@<=1.50e1]": "$[?@ <= 15]", "$[?@!=-0]": "$[?@ != 0]", `$[?@>="\u00e9"]`: `$[?@ >= "é"]`, "$[?$[-1].x>@]": `$[?$[-1]["x"] > @]`, "$[?@==null,?@<true]": "$[?@ == null,?@ < true]", "$.null.true._9": `$["null"]["true"]["_9"]`, "$[?@.null==false]": `$[?@["null"] == false]`, "$[?(@==1)]": "$[?@ == 1]", "$[?!((@.a||@.b)&&@.c)]": `$[?!((@["a"] || @["b"]) && @["c"])]`,
	} {
		q := ask(t, text)
		if got := q.Text(); got != want {
			t.Errorf("Text of %s: %s, want %s", text, got, want)
		}
		if again := ask(t, want); again.Text() != want || !reflect.DeepEqual(again.Segments(), q.Segments()) {
			t.Errorf("Text of %s: %s", want, again.Text())
		}
	}
}

func TestSegments(t *testing.T) {
	told := func(n int) api.Maybe { return api.Maybe{Told: true, N: n} }
	for text, want := range map[string][]api.Segment{
		"$":            nil,
		"$..a[1:,*]":   {{Deep: true, Picks: []api.Pick{api.PickKey{Key: "a", Quoted: `"a"`}}}, {Picks: []api.Pick{api.PickSlice{From: told(1)}, api.PickAll{}}}},
		"$[0,-1].*":    {{Picks: []api.Pick{api.PickItem{}, api.PickItem{At: -1}}}, {Picks: []api.Pick{api.PickAll{}}}},
		"$[:0:2,::1]":  {{Picks: []api.Pick{api.PickSlice{To: told(0), By: told(2)}, api.PickSlice{}}}},
		`$[?@.a,"\""]`: {{Picks: []api.Pick{api.PickIf{Text: `@["a"]`}, api.PickKey{Key: `"`, Quoted: `"\""`}}}},
	} {
		if got := ask(t, text).Segments(); len(got) != len(want) || len(want) > 0 && !reflect.DeepEqual(got, want) {
			t.Errorf("Segments of %s: %#v", text, got)
		}
	}
	q := ask(t, "$.a[0]")
	s := q.Segments()
	s[0].Picks[0], s[1].Deep = api.PickAll{}, true
	if !reflect.DeepEqual(q.Segments()[0].Picks[0], api.PickKey{Key: "a", Quoted: `"a"`}) || q.Segments()[1].Deep {
		t.Error("Segments are shared")
	}
	var none *query.Query
	if none.Text() != "" || len(none.Segments()) != 0 {
		t.Error("of nil")
	}
}

func TestErrors(t *testing.T) {
	for text, want := range map[string]api.Spot{
		"": {Err: api.ErrQuery}, "a": {Err: api.ErrQuery}, "$.": {Err: api.ErrQuery, At: 2}, "$[01]": {Err: api.ErrQuery, At: 3}, "$[1.0]": {Err: api.ErrOrdinal, At: 2}, `$["\x"]`: {Err: api.ErrEscape, At: 4}, "$[?@.x==1e999]": {Err: api.ErrRange, At: 8}, "$[?(@.x)&&(1==1)]": {Err: api.ErrQuery, At: 11},
		"  ": {Err: api.ErrQuery, At: 2}, "@": {Err: api.ErrQuery}, "$$": {Err: api.ErrQuery, At: 1}, "$a": {Err: api.ErrQuery, At: 1}, "$.1": {Err: api.ErrQuery, At: 2}, "$..": {Err: api.ErrQuery, At: 3}, "$...": {Err: api.ErrQuery, At: 3}, "$.[0]": {Err: api.ErrQuery, At: 2}, `$."a"`: {Err: api.ErrQuery, At: 2}, "$[": {Err: api.ErrQuery, At: 2}, "$[]": {Err: api.ErrQuery, At: 2}, "$[0": {Err: api.ErrQuery, At: 3}, "$[0,]": {Err: api.ErrQuery, At: 4}, "$[0 1]": {Err: api.ErrQuery, At: 4}, "$[a]": {Err: api.ErrQuery, At: 2}, "$[@]": {Err: api.ErrQuery, At: 2}, "$[1:2:3:4]": {Err: api.ErrQuery, At: 7}, `$[1:"a"]`: {Err: api.ErrQuery, At: 4}, "$[*:1]": {Err: api.ErrQuery, At: 3}, "$[?]": {Err: api.ErrQuery, At: 3}, "$[?1]": {Err: api.ErrQuery, At: 3}, "$[?@": {Err: api.ErrQuery, At: 4}, "$[?@.]": {Err: api.ErrQuery, At: 5}, "$[?@..a]": {Err: api.ErrQuery, At: 4}, "$[?@.*]": {Err: api.ErrQuery, At: 5}, "$[?@[*]]": {Err: api.ErrQuery, At: 5}, "$[?@[0:1]]": {Err: api.ErrQuery, At: 6}, "$[?@[0,1]]": {Err: api.ErrQuery, At: 6}, "$[?@==]": {Err: api.ErrQuery, At: 6}, "$[?@==x]": {Err: api.ErrQuery, At: 6}, "$[?@==(1)]": {Err: api.ErrQuery, At: 6}, "$[?@==1==1]": {Err: api.ErrQuery, At: 7}, "$[?@&&]": {Err: api.ErrQuery, At: 6}, "$[?(@]": {Err: api.ErrQuery, At: 5}, "$[?@)]": {Err: api.ErrQuery, At: 4}, "$[?!]": {Err: api.ErrQuery, At: 4}, "$[?null]": {Err: api.ErrQuery, At: 3}, "$[?@=1]": {Err: api.ErrQuery, At: 4}, "$[?@&@]": {Err: api.ErrQuery, At: 4}, "$[?@|@]": {Err: api.ErrQuery, At: 4}, "$\t": {Err: api.ErrQuery, At: 1}, "$.é": {Err: api.ErrQuery, At: 2}, "\xFF": {Err: api.ErrQuery}, "$[?@==True]": {Err: api.ErrQuery, At: 6}, "$ x": {Err: api.ErrQuery, At: 2}, "$!": {Err: api.ErrQuery, At: 1}, "$[!0]": {Err: api.ErrQuery, At: 2}, "$[?@ 1]": {Err: api.ErrQuery, At: 5}, "$[?@.a b]": {Err: api.ErrQuery, At: 7},
		"$[-0]": {Err: api.ErrOrdinal, At: 2}, "$[1e0]": {Err: api.ErrOrdinal, At: 2}, "$[9007199254740992]": {Err: api.ErrOrdinal, At: 2}, "$[-9007199254740992]": {Err: api.ErrOrdinal, At: 2}, "$[99999999999999999999]": {Err: api.ErrOrdinal, At: 2}, "$[:1.5]": {Err: api.ErrOrdinal, At: 3}, "$[::-0]": {Err: api.ErrOrdinal, At: 4}, "$[?@[0.0]]": {Err: api.ErrOrdinal, At: 5}, "$[1.5 x]": {Err: api.ErrOrdinal, At: 2}, "$[1.5\x00": {Err: api.ErrOrdinal, At: 2}, "$[0:-0:x]": {Err: api.ErrOrdinal, At: 4},
		"$[1.]": {Err: api.ErrToken, At: 4}, "$[1..2]": {Err: api.ErrToken, At: 4}, "$[-]": {Err: api.ErrToken, At: 3}, "$[-": {Err: api.ErrEnd, At: 3}, "$[1.": {Err: api.ErrEnd, At: 4}, "$[1e]": {Err: api.ErrToken, At: 4}, "$[?@==-x]": {Err: api.ErrToken, At: 7}, "$-x": {Err: api.ErrToken, At: 2}, "$1e999": {Err: api.ErrRange, At: 1}, "$[1e999]": {Err: api.ErrRange, At: 2}, `$["a`: {Err: api.ErrEnd, At: 4}, `$"`: {Err: api.ErrEnd, At: 2}, "$[\"\xFF\"]": {Err: api.ErrChar, At: 3}, "$[\"\n\"]": {Err: api.ErrControl, At: 3}, `$["\ud800"]`: {Err: api.ErrLone, At: 9}, `$["\udc00"]`: {Err: api.ErrLone, At: 6}, "$[?@==-1e999": {Err: api.ErrRange, At: 6}, `$x"`: {Err: api.ErrQuery, At: 1}, `$[0"]`: {Err: api.ErrEnd, At: 5}, `x"`: {Err: api.ErrQuery},
	} {
		q, err := query.Parse(text)
		if q != nil || err != want {
			t.Errorf("Parse(%q): %v, want %v", text, err, want)
		}
	}
}

func TestParseLimits(t *testing.T) {
	spot := func(at int) error { return api.Spot{Err: api.ErrLong, At: at} }
	rep := strings.Repeat
	for i, c := range []struct {
		text string
		want error
	}{
		{"$" + rep(" ", 4095), nil}, {"$" + rep(" ", 4096), api.ErrLong}, {"x" + rep(" ", 4096), api.ErrLong}, {rep("\xFF", 4097), api.ErrLong},
		{"$" + rep(".a", 128), nil}, {"$" + rep(".a", 129), spot(257)}, {"$" + rep("[0]", 128), nil}, {"$" + rep("[0]", 128) + "[", spot(385)}, {"$" + rep("..*", 128) + " ..x", spot(386)}, {"$[" + rep("0,", 254) + "0]", nil}, {"$[" + rep("0,", 255) + "0]", spot(2 + 510)}, {"$[" + rep("0,", 255) + "1.5]", spot(2 + 510)}, {"$[" + rep("0,", 255) + "x]", api.Spot{Err: api.ErrQuery, At: 512}}, {"$" + rep(".a", 127) + "[0,0]", spot(1 + 254 + 3)},
		{"$[?@" + rep(".a", 253) + "]", nil}, {"$[?@" + rep(".a", 254) + "]", spot(4 + 506)}, {"$[?@" + rep("[0]", 254) + "]", spot(4 + 759)}, {"$[?@" + rep(".a", 252) + "==1]", nil}, {"$[?@" + rep(".a", 253) + "==1]", spot(4 + 506 + 2)}, {"$[?@" + rep(".a", 253) + "==@]", spot(4 + 506 + 2)}, {"$[?@" + rep(".a", 253) + "==x]", api.Spot{Err: api.ErrQuery, At: 512}}, {"$[?@" + rep("&&@", 253) + "]", nil}, {"$[?@" + rep("&&@", 254) + "]", spot(3 + 254*3)}, {"$[?@" + rep("&&@", 253) + ",0]", spot(3 + 254*3 - 1)}, {"$[" + rep("::,", 254) + "::]", nil}, {"$[" + rep("1:2:3,", 255) + "1:2:3]", spot(2 + 255*6)},
		{"$[?" + rep("!", 32) + "@]", nil}, {"$[?" + rep("!", 33) + "@]", spot(3 + 32)}, {"$[?" + rep("(", 32) + "@" + rep(")", 32) + "]", nil}, {"$[?" + rep("(", 33) + "@", spot(3 + 32)}, {"$[?" + rep("!(", 16) + "@" + rep(")", 16) + "&&" + rep("(!", 16) + "@" + rep(")", 16) + "]", nil}, {"$[?" + rep("!(", 16) + "!@", spot(3 + 32)}, {"$[?(" + rep("!", 31) + "@)&&" + rep("!", 32) + "@,?" + rep("!", 32) + "@]", nil},
	} {
		q, err := query.Parse(c.text)
		if err != c.want || (q == nil) != (err != nil) {
			t.Errorf("case %d, %.30s: %v, want %v", i, c.text, err, c.want)
		}
	}
}

func TestRunLimits(t *testing.T) {
	list := func(n int) *node.Tree { return read(t, "["+strings.TrimSuffix(strings.Repeat("1,", n), ",")+"]") }
	for i, c := range []struct {
		n    int
		text string
		want error
		l    int
	}{
		{65535, "$.*", nil, 65535}, {65535, "$[*,0]", nil, 65536}, {65535, "$[*,0,0]", api.ErrLong, 0}, {32768, "$[*,*]", nil, 65536}, {32769, "$[*,*]", api.ErrLong, 0}, {32767, "$..*", nil, 32767}, {32768, "$..*", api.ErrLong, 0}, {65535, "$..[?@ == 2]", nil, 0}, {65535, "$..x", nil, 0}, {40000, "$[*][*]", nil, 0}, {65535, "$..[?@ == 2,0]", api.ErrLong, 0}, {300, "$[*,*][*]", nil, 0}, {40000, "$[*,*].x", api.ErrLong, 0},
	} {
		tree := list(c.n)
		q := ask(t, c.text)
		refs, err := q.Refs(tree)
		values, err2 := q.Values(tree)
		pointers, err3 := q.Pointers(tree)
		if err != c.want || err2 != c.want || err3 != c.want || len(refs) != c.l || len(values) != c.l || len(pointers) != c.l {
			t.Errorf("case %d: %d, %v", i, len(refs), err)
		}
		if lost, ok := q.One(tree).(*api.Lost); err != nil && (!ok || lost != nil) {
			t.Errorf("case %d: One", i)
		}
	}
	var none *query.Query
	tree := list(1)
	for _, c := range []struct {
		q *query.Query
		t *node.Tree
	}{{none, tree}, {ask(t, "$"), nil}, {none, nil}} {
		r, err := c.q.Refs(c.t)
		p, err2 := c.q.Pointers(c.t)
		v, err3 := c.q.Values(c.t)
		if r != nil || p != nil || v != nil || err != api.ErrNil || err2 != api.ErrNil || err3 != api.ErrNil {
			t.Errorf("of nil: %v, %v, %v", err, err2, err3)
		}
	}
}

// asked is a question that was made up: its text, laid out in some way, and what it picks.
type asked struct {
	text string
	pick func(found []found, whole api.Value) []found
}

type found struct {
	p string
	v api.Value
}

func below(p, token string) string {
	s, _ := pointer.Down(p, token)
	return s
}

func inside(f found) []found {
	var l []found
	switch x := f.v.(type) {
	case api.List:
		for i, v := range x {
			l = append(l, found{below(f.p, strconv.Itoa(i)), v})
		}
	case api.Object:
		for _, m := range x {
			l = append(l, found{below(f.p, m.Key), m.Value})
		}
	}
	return l
}

func through(f found) []found {
	l := []found{f}
	for _, inner := range inside(f) {
		l = append(l, through(inner)...)
	}
	return l
}

func at(f found, i int) []found {
	l, ok := f.v.(api.List)
	if i < 0 {
		i += len(l)
	}
	if !ok || i < 0 || i >= len(l) {
		return nil
	}
	return inside(f)[i : i+1]
}

func member(f found, key string) []found {
	o, _ := f.v.(api.Object)
	for i, m := range o {
		if m.Key == key {
			return inside(f)[i : i+1]
		}
	}
	return nil
}

// question makes up a question of so many segments.
func question(r *rand.Rand, n int) asked {
	q := asked{"$", func(l []found, _ api.Value) []found { return l }}
	for range n {
		s := made(r)
		before := q.pick
		q = asked{q.text + blank(r) + s.text, func(l []found, whole api.Value) []found { return s.pick(before(l, whole), whole) }}
	}
	return q
}

func blank(r *rand.Rand) string { return []string{"", "", " "}[r.Intn(3)] }

// made makes up a segment.
func made(r *rand.Rand) asked {
	deep := r.Intn(5) == 0
	text, picks := "", []asked(nil)
	if r.Intn(2) == 0 {
		name := []string{"a", "b", "*", "_x1"}[r.Intn(4)]
		text = "." + blank(r) + name
		if deep {
			text = ".." + name
		}
		picks = []asked{{pick: func(l []found, _ api.Value) []found {
			var out []found
			for _, f := range l {
				if name == "*" {
					out = append(out, inside(f)...)
				} else {
					out = append(out, member(f, name)...)
				}
			}
			return out
		}}}
	} else {
		var texts []string
		for range 1 + r.Intn(2) {
			p := pick(r)
			picks, texts = append(picks, p), append(texts, blank(r)+p.text+blank(r))
		}
		text = "[" + strings.Join(texts, ",") + "]"
		if deep {
			text = ".." + text
		}
	}
	return asked{text, func(l []found, whole api.Value) []found {
		var out []found
		for _, f := range l {
			all := []found{f}
			if deep {
				all = through(f)
			}
			for _, g := range all {
				for _, p := range picks {
					out = append(out, p.pick([]found{g}, whole)...)
				}
			}
		}
		return out
	}}
}

func pick(r *rand.Rand) asked {
	each := func(f func(found, api.Value) []found) func([]found, api.Value) []found {
		return func(l []found, whole api.Value) []found { return f(l[0], whole) }
	}
	switch r.Intn(6) {
	case 0:
		return asked{"*", each(func(f found, _ api.Value) []found { return inside(f) })}
	case 1:
		key := []string{"a", "b", "é", ""}[r.Intn(4)]
		return asked{[]string{strconv.Quote(key), strings.ReplaceAll(strconv.QuoteToASCII(key), `\x`, `\u00`)}[r.Intn(2)], each(func(f found, _ api.Value) []found { return member(f, key) })}
	case 2:
		i := r.Intn(7) - 3
		return asked{strconv.Itoa(i), each(func(f found, _ api.Value) []found { return at(f, i) })}
	case 3, 4:
		return slice(r)
	}
	e := either(r, 3)
	return asked{"?" + blank(r) + e.text, each(func(f found, whole api.Value) []found {
		var out []found
		for _, g := range inside(f) {
			if e.so(g.v, whole) {
				out = append(out, g)
			}
		}
		return out
	})}
}

func slice(r *rand.Rand) asked {
	var n [3]int
	var told [3]bool
	for i := range n {
		n[i], told[i] = r.Intn(13)-6, r.Intn(3) > 0
	}
	show := func(i int) string {
		if !told[i] {
			return blank(r)
		}
		return strconv.Itoa(n[i]) + blank(r)
	}
	text := show(0) + ":" + show(1)
	if told[2] || r.Intn(2) == 0 {
		text += ":" + show(2)
	}
	return asked{text, func(l []found, _ api.Value) []found {
		list, ok := l[0].v.(api.List)
		if !ok || told[2] && n[2] == 0 {
			return nil
		}
		by, size := 1, len(list)
		if told[2] {
			by = n[2]
		}
		from, to, low, high := 0, size, 0, size
		if by < 0 {
			from, to, low, high = size-1, -1, -1, size-1
		}
		for i, p := range []*int{&from, &to} {
			if told[i] {
				if *p = n[i]; *p < 0 {
					*p += size
				}
				*p = max(low, min(high, *p))
			}
		}
		var out []found
		for i := from; i != to && (i < to) == (by > 0); i += by {
			out = append(out, inside(l[0])[i])
		}
		return out
	}}
}

type condition struct {
	text string
	so   func(at, whole api.Value) bool
}

// either makes up an either.
func either(r *rand.Rand, depth int) condition {
	var texts []string
	var boths []condition
	for range 1 + r.Intn(2) {
		var plains []condition
		var parts []string
		for range 1 + r.Intn(2) {
			p := plain(r, depth)
			plains, parts = append(plains, p), append(parts, p.text)
		}
		texts = append(texts, strings.Join(parts, blank(r)+"&&"+blank(r)))
		boths = append(boths, condition{so: func(at, whole api.Value) bool {
			return !slices.ContainsFunc(plains, func(p condition) bool { return !p.so(at, whole) })
		}})
	}
	return condition{strings.Join(texts, blank(r)+"||"+blank(r)), func(at, whole api.Value) bool {
		return slices.ContainsFunc(boths, func(p condition) bool { return p.so(at, whole) })
	}}
}

func plain(r *rand.Rand, depth int) condition {
	if depth > 0 {
		switch r.Intn(5) {
		case 0:
			p := plain(r, depth-1)
			return condition{"!" + blank(r) + p.text, func(at, whole api.Value) bool { return !p.so(at, whole) }}
		case 1:
			e := either(r, depth-1)
			return condition{"(" + blank(r) + e.text + ")", e.so}
		}
	}
	text, way := way(r)
	if r.Intn(3) == 0 {
		return condition{text, func(at, whole api.Value) bool { return way(at, whole) != nil }}
	}
	sign := []string{"==", "!=", "<", "<=", ">", ">="}[r.Intn(6)]
	other, to := "", way
	if r.Intn(2) == 0 {
		other, to = sideWay(r)
	} else {
		i := r.Intn(7)
		other = []string{"1", "0.50", `"a"`, "null", "true", "false", `"\u00e9"`}[i]
		v := []api.Value{api.Number(1), api.Number(0.5), api.Text("a"), api.Null{}, api.Flag(true), api.Flag(false), api.Text("é")}[i]
		to = func(_, _ api.Value) api.Value { return v }
	}
	return condition{text + blank(r) + sign + blank(r) + other, func(at, whole api.Value) bool {
		a, b := way(at, whole), to(at, whole)
		same := reflect.DeepEqual(a, b)
		switch sign {
		case "==":
			return same
		case "!=":
			return !same
		case "<":
			return ahead(a, b)
		case "<=":
			return ahead(a, b) || same
		case ">":
			return ahead(b, a)
		}
		return ahead(b, a) || same
	}}
}

func ahead(a, b api.Value) bool {
	x, ok := a.(api.Number)
	y, ok2 := b.(api.Number)
	s, ok3 := a.(api.Text)
	u, ok4 := b.(api.Text)
	if ok3 && ok4 {
		return slices.Compare(utf16.Encode([]rune(string(s))), utf16.Encode([]rune(string(u)))) < 0
	}
	return ok && ok2 && x < y
}

func sideWay(r *rand.Rand) (string, func(at, whole api.Value) api.Value) { return way(r) }

func way(r *rand.Rand) (string, func(at, whole api.Value) api.Value) {
	text := "@"
	if r.Intn(4) == 0 {
		text = "$"
	}
	whole := text == "$"
	var steps []func(found) []found
	for range r.Intn(3) {
		switch r.Intn(3) {
		case 0:
			key := []string{"a", "b", "null"}[r.Intn(3)]
			text += "." + blank(r) + key
			steps = append(steps, func(f found) []found { return member(f, key) })
		case 1:
			key := []string{"a", "é"}[r.Intn(2)]
			text += "[" + strconv.Quote(key) + blank(r) + "]"
			steps = append(steps, func(f found) []found { return member(f, key) })
		case 2:
			i := r.Intn(5) - 2
			text += blank(r) + "[" + blank(r) + strconv.Itoa(i) + "]"
			steps = append(steps, func(f found) []found { return at(f, i) })
		}
	}
	return text, func(at, all api.Value) api.Value {
		f := found{v: at}
		if whole {
			f.v = all
		}
		for _, s := range steps {
			l := s(f)
			if len(l) == 0 {
				return nil
			}
			f = l[0]
		}
		return f.v
	}
}

// random is a value, as a document.
func random(r *rand.Rand, depth int) string {
	k := r.Intn(9)
	if depth == 1 {
		k = r.Intn(4)
	}
	var l []string
	switch {
	case k > 6:
		for _, key := range []string{"a", "b", "é", ""} {
			if r.Intn(2) == 0 {
				l = append(l, strconv.Quote(key)+":"+random(r, depth-1))
			}
		}
		return "{" + strings.Join(l, ",") + "}"
	case k > 3:
		for range r.Intn(5) {
			l = append(l, random(r, depth-1))
		}
		return "[" + strings.Join(l, ",") + "]"
	}
	return [][]string{{"null", "true", "false"}, {"0", "1", "0.5"}, {`"a"`, `""`, `"é"`}, {"1", `"a"`, "null"}}[k][r.Intn(3)]
}

func TestAgainstReference(t *testing.T) {
	r := rand.New(rand.NewSource(1))
	picked := 0
	for range 12000 {
		made := question(r, r.Intn(4))
		tree := read(t, random(r, 5))
		q := ask(t, made.text)
		want := made.pick([]found{{"", tree.Value()}}, tree.Value())
		pointers, err := q.Pointers(tree)
		values, err2 := q.Values(tree)
		refs, err3 := q.Refs(tree)
		if err != nil || err2 != nil || err3 != nil || len(pointers) != len(want) || len(values) != len(want) || len(refs) != len(want) {
			t.Fatalf("%s of %s: %q, %v, want %v", made.text, form(tree), pointers, err, want)
		}
		picked += len(want)
		for i, f := range want {
			if pointers[i] != f.p || !reflect.DeepEqual(values[i], f.v) || !reflect.DeepEqual(refs[i].Value(), f.v) || !reflect.DeepEqual(pointer.Look(tree, f.p), f.v) {
				t.Fatalf("%s of %s: %q, want %v", made.text, form(tree), pointers, want)
			}
		}
		one := q.One(tree)
		lost, isLost := one.(*api.Lost)
		if isLost != (len(want) != 1) || isLost && lost.At != len(want) || !isLost && !reflect.DeepEqual(one, want[0].v) {
			t.Fatalf("One of %s: %v", made.text, one)
		}
		again := ask(t, q.Text())
		l, _ := again.Pointers(tree)
		if again.Text() != q.Text() || !reflect.DeepEqual(again.Segments(), q.Segments()) || !slices.Equal(l, pointers) {
			t.Fatalf("Parse of %s of %s: %s", q.Text(), made.text, again.Text())
		}
	}
	if picked < 3000 {
		t.Errorf("only %d values are picked", picked)
	}
}

func form(tree *node.Tree) string {
	b, _ := canon.Bytes(tree)
	return string(b)
}

// TestOfPointers: the question that is written of a pointer's tokens picks what the pointer leads to.
func TestOfPointers(t *testing.T) {
	r := rand.New(rand.NewSource(2))
	for range 500 {
		tree := read(t, random(r, 5))
		for p, ref := range pointer.All(tree) {
			tokens, _ := pointer.Parse(p)
			text, at := "$", tree.Root()
			for _, token := range tokens {
				if at.Sort() == api.SortList {
					text += "[" + token + "]"
					i, _ := strconv.Atoi(token)
					at, _ = at.At(i)
				} else {
					quoted, _ := canon.Quote(token)
					text += "[" + quoted + "]"
					at, _ = at.Find(token)
				}
			}
			if l, err := ask(t, text).Pointers(tree); err != nil || !slices.Equal(l, []string{p}) || !reflect.DeepEqual(ask(t, text).One(tree), ref.Value()) {
				t.Fatalf("%s of %s: %q, %v", text, form(tree), l, err)
			}
		}
	}
}

// TestOneBehindTheOther: P21.7.
func TestOneBehindTheOther(t *testing.T) {
	r := rand.New(rand.NewSource(3))
	for range 2000 {
		a, b := question(r, 1+r.Intn(2)), question(r, 1)
		if strings.Contains(a.text[1:]+b.text[1:], "$") {
			continue
		}
		tree := read(t, random(r, 5))
		first, _ := ask(t, a.text).Refs(tree)
		var want []api.Value
		for _, ref := range first {
			l, err := ask(t, b.text).Values(ref.Tree())
			if err != nil {
				t.Fatal(err)
			}
			want = append(want, l...)
		}
		got, err := ask(t, a.text+b.text[1:]).Values(tree)
		if err != nil || len(got) != len(want) || len(want) > 0 && !reflect.DeepEqual(got, want) {
			t.Fatalf("%s and %s of %s: %v, %v", a.text, b.text, form(tree), got, err)
		}
	}
}

func TestToldAnew(t *testing.T) {
	tree := read(t, `[[1]]`)
	l, _ := ask(t, "$[0,0]").Values(tree)
	l[0].(api.List)[0] = api.Text("spoilt")
	if !reflect.DeepEqual(l[1], api.List{api.Number(1)}) {
		t.Error("values are shared")
	}
	q := ask(t, "$..[?@ == 1]")
	var wrong sync.Map
	var all sync.WaitGroup
	for i := range 8 {
		all.Go(func() {
			for range 100 {
				if l, err := q.Pointers(tree); err != nil || !slices.Equal(l, []string{"/0/0"}) {
					wrong.Store(i, fmt.Sprint(l, err))
				}
			}
		})
	}
	all.Wait()
	wrong.Range(func(_, s any) bool { t.Errorf("asked at one time: %v", s); return false })
}
