package claims_test

import (
	"math"
	"math/rand"
	"reflect"
	"slices"
	"strconv"
	"strings"
	"testing"

	"affidavit/api"
	"affidavit/canon"
	"affidavit/claims"
	"affidavit/node"
	"affidavit/parse"
)

func read(t testing.TB, s string) *node.Tree {
	t.Helper()
	tree, err := parse.Read([]byte(s), api.MaxDepth)
	if err != nil {
		t.Fatalf("%.80s: %v", s, err)
	}
	return tree
}

func form(tree *node.Tree) string {
	b, _ := canon.Bytes(tree)
	return string(b)
}

// has is the list of claims that are there.
func has(keys string) []string { return strings.Fields(keys) }

// same tells whether two claims are the same; lists without elements are one.
func same(a, b api.Claims) bool {
	lists := slices.Equal(a.Has, b.Has) && slices.Equal(a.For, b.For) && slices.Equal(a.May, b.May)
	a.Has, a.For, a.May, b.Has, b.For, b.May = nil, nil, nil, nil, nil, nil
	return lists && reflect.DeepEqual(a, b)
}

func trails(l ...any) api.All {
	var out api.All
	for i := 0; i < len(l); i += 2 {
		out = append(out, api.Trail{Err: l[i].(api.Errno), Pointer: l[i+1].(string)})
	}
	return out
}

func TestRead(t *testing.T) {
	for s, want := range map[string]api.Claims{
		`{"by":"a","for":"b","x":1}`: {Has: has("by for"), By: "a", For: []string{"b"}}, "{}": {}, `{"about":"é","at":0,"by":"","for":[],"from":1.0,"id":"i","may":["x","y"],"until":9007199254740991}`: {Has: has("about at by for from id may until"), About: "é", From: 1, ID: "i", May: []string{"x", "y"}, Until: api.MaxTime}, `{"for":["b","a"]}`: {Has: has("for"), For: []string{"b", "a"}}, `{"At":1,"until ":2,"":3}`: {}, `{"may":[]}`: {Has: has("may")}, `{"for":""}`: {Has: has("for"), For: []string{""}}, `{"at":-0}`: {Has: has("at")},
	} {
		if c, err := claims.Read(read(t, s)); err != nil || !same(c, want) {
			t.Errorf("Read(%s): %v, %v", s, c, err)
		}
	}
	for s, want := range map[string]error{
		`{"at":-1,"may":["x",1],"until":1.5,"for":["a","a"]}`: trails(api.ErrTime, "/at", api.ErrTwice, "/for/1", api.ErrSort, "/may/1", api.ErrTime, "/until"), "1": api.Trail{Err: api.ErrSort}, "[]": api.Trail{Err: api.ErrSort}, "null": api.Trail{Err: api.ErrSort}, `{"about":1,"by":null,"id":[],"from":"1"}`: trails(api.ErrSort, "/about", api.ErrSort, "/by", api.ErrSort, "/from", api.ErrSort, "/id"), `{"may":"x"}`: trails(api.ErrSort, "/may"), `{"for":1}`: trails(api.ErrSort, "/for"), `{"for":{}}`: trails(api.ErrSort, "/for"), `{"may":["a","b","a","b",1]}`: trails(api.ErrSort, "/may/4"), `{"may":["a","b","b","a"]}`: trails(api.ErrTwice, "/may/2"), `{"for":[null,null]}`: trails(api.ErrSort, "/for/0"), `{"until":9007199254740992}`: trails(api.ErrTime, "/until"), `{"until":1e300,"at":0.5,"from":-0.5}`: trails(api.ErrTime, "/at", api.ErrTime, "/from", api.ErrTime, "/until"), `{"until":true}`: trails(api.ErrSort, "/until"),
	} {
		c, err := claims.Read(read(t, s))
		if !same(c, api.Claims{}) || !reflect.DeepEqual(err, want) {
			t.Errorf("Read(%s): %v, %v", s, c, err)
		}
		v, ok := claims.Tree(read(t, s), api.Rules{Now: -1}).(*api.Broken)
		if !ok || !reflect.DeepEqual(v.Err, want) {
			t.Errorf("Tree(%s): %v", s, v)
		}
	}
	if c, err := claims.Read(nil); !same(c, api.Claims{}) || err != api.ErrNil {
		t.Errorf("Read of nil: %v", err)
	}
}

// broken are claims that may not be.
func broken() []api.Claims {
	long := api.Claims{Has: has("x")}
	return []api.Claims{
		long, {By: "a"}, {Has: has("by at"), By: "a"}, {Has: has("at at")}, {Has: has("at"), At: -1}, {Has: has("at"), At: api.MaxTime + 1}, {Has: has("from"), From: math.MinInt64}, {Has: has("until"), Until: math.MaxInt64}, {Has: has("by"), By: "\xFF"}, {Has: has("id"), ID: "\xED\xA0\x80"}, {Has: has("about"), About: "\xC0"}, {Has: has("for"), For: []string{"a", "b", "a"}}, {Has: has("may"), May: []string{"", ""}}, {Has: has("may"), May: []string{"\xFF"}}, {For: []string{"a"}}, {May: []string{"a"}}, {At: 1}, {From: 1}, {Until: 1}, {ID: "x"}, {About: "x"}, {Has: has("about at by for from id may until x")}, {Has: []string{""}}, {Has: has("by"), ID: "x"}, {Has: has("until from")},
	}
}

func TestMake(t *testing.T) {
	for want, c := range map[string]api.Claims{`{"for":["b"]}`: {Has: has("for"), For: []string{"b"}}, "{}": {}, `{"about":"","at":0,"by":"","for":[],"from":0,"id":"","may":[],"until":0}`: {Has: has("about at by for from id may until")}, `{"at":9007199254740991,"may":["b","a"]}`: {Has: has("at may"), At: api.MaxTime, May: []string{"b", "a"}}, `{"by":"é"}`: {Has: has("by"), By: "é", For: []string{}}} {
		if tree, err := claims.Make(c); err != nil || form(tree) != want {
			t.Errorf("Make(%v): %s, %v", c, form(tree), err)
		}
	}
	good := api.Claims{Has: has("by"), By: "a"}
	for i, c := range broken() {
		tree, err := claims.Make(c)
		v, ok := claims.Judge(c, api.Rules{}).(*api.Broken)
		time, changes := claims.Change(c, api.Rules{})
		w, at := claims.Worst([]api.Claims{good, c}, api.Rules{})
		if tree != nil || err != api.ErrArg || !ok || v == nil || v.Err != api.ErrArg || time != 0 || changes || claims.Within(c, good) != api.ErrArg || claims.Within(good, c) != api.ErrArg || w.Good() || at != 1 {
			t.Errorf("case %d: %v", i, err)
		}
	}
	var many []string
	for i := range api.MaxNodes {
		many = append(many, strconv.Itoa(i))
	}
	for i, c := range []struct {
		c    api.Claims
		want error
	}{{api.Claims{Has: has("may"), May: many[2:]}, nil}, {api.Claims{Has: has("may"), May: many[1:]}, api.ErrLong}, {api.Claims{Has: has("may until"), May: many}, api.ErrLong}, {api.Claims{Has: has("by"), By: strings.Repeat("x", api.MaxBytes-2)}, nil}, {api.Claims{Has: has("by"), By: strings.Repeat("x", api.MaxBytes-1)}, api.ErrLong}, {api.Claims{Has: has("by"), By: strings.Repeat("x", api.MaxBytes+1)}, api.ErrLong}} {
		if tree, err := claims.Make(c.c); err != c.want || (tree == nil) != (err != nil) {
			t.Errorf("case %d: %v", i, err)
		}
	}
}

func TestJudge(t *testing.T) {
	until := api.Claims{Has: has("until"), Until: 10}
	early := api.Claims{Has: has("at from"), At: 5, From: 3}
	forB := api.Claims{Has: has("for"), For: []string{"b", "c"}}
	mayX := api.Claims{Has: has("may"), May: []string{"x"}}
	byA := api.Claims{Has: has("by"), By: "a"}
	all := api.Claims{Has: has("by for from may until"), By: "a", For: []string{"b"}, From: 5, May: []string{"x"}, Until: 3}
	l := func(s ...string) []string { return s }
	for i, c := range []struct {
		c    api.Claims
		r    api.Rules
		want api.Verdict
	}{
		{until, api.Rules{Now: 9}, api.Holds{Until: 10}}, {until, api.Rules{Now: 10}, api.Over{Until: 10}}, {until, api.Rules{Now: 10, Slack: 1}, api.Holds{Until: 10}}, {until, api.Rules{Now: 11, Slack: 1}, api.Over{Until: 10}}, {early, api.Rules{Now: 4}, api.Early{From: 5}}, {early, api.Rules{Now: 5}, api.Holds{Until: -1}}, {early, api.Rules{Now: 4, Slack: 1}, api.Holds{Until: -1}}, {api.Claims{Has: has("at from"), At: 5, From: 7}, api.Rules{Now: 5, Slack: 1}, api.Early{From: 7}}, {api.Claims{}, api.Rules{Need: l("by")}, api.Lacks{Claim: "by"}}, {byA, api.Rules{Need: l("by", "zz\xFF", "at")}, api.Lacks{Claim: "zz\xFF"}}, {api.Claims{}, api.Rules{By: l("a")}, api.Alien{}}, {byA, api.Rules{By: l("b", "a")}, api.Holds{Until: -1}}, {byA, api.Rules{By: l("b")}, api.Alien{By: "a"}}, {api.Claims{}, api.Rules{By: l("")}, api.Alien{}}, {api.Claims{Has: has("by")}, api.Rules{By: l("")}, api.Holds{Until: -1}},
		{forB, api.Rules{Who: "a"}, api.Other{For: l("b", "c")}}, {forB, api.Rules{Who: "c"}, api.Holds{Until: -1}}, {forB, api.Rules{}, api.Holds{Until: -1}}, {api.Claims{}, api.Rules{Who: "a"}, api.Holds{Until: -1}}, {api.Claims{Has: has("for")}, api.Rules{Who: "a"}, api.Other{}}, {mayX, api.Rules{May: l("y", "x", "y", "z")}, api.Barred{May: l("y", "z")}}, {api.Claims{}, api.Rules{May: l("x", "x")}, api.Barred{May: l("x")}}, {mayX, api.Rules{May: l("x")}, api.Holds{Until: -1}}, {api.Claims{}, api.Rules{Now: -1}, &api.Broken{Err: api.ErrArg}}, {api.Claims{}, api.Rules{Slack: -1}, &api.Broken{Err: api.ErrArg}}, {api.Claims{}, api.Rules{Now: api.MaxTime + 1}, &api.Broken{Err: api.ErrArg}}, {api.Claims{}, api.Rules{Slack: math.MaxInt64}, &api.Broken{Err: api.ErrArg}}, {api.Claims{Has: has("until"), Until: api.MaxTime}, api.Rules{Now: api.MaxTime, Slack: api.MaxTime}, api.Holds{Until: api.MaxTime}}, {api.Claims{Has: has("until")}, api.Rules{}, api.Over{}},
		{all, api.Rules{Need: l("id"), By: l("x"), Who: "x", May: l("y")}, api.Lacks{Claim: "id"}}, {all, api.Rules{By: l("x"), Who: "x", May: l("y")}, api.Alien{By: "a"}}, {all, api.Rules{By: l("a"), Who: "x", May: l("y")}, api.Other{For: l("b")}}, {all, api.Rules{Now: 4, Who: "b", May: l("y")}, api.Early{From: 5}}, {all, api.Rules{Now: 5, May: l("y")}, api.Over{Until: 3}}, {all, api.Rules{Now: 4, Slack: 2, May: l("y")}, api.Barred{May: l("y")}}, {all, api.Rules{Now: 4, Slack: 2}, api.Holds{Until: 3}},
	} {
		v := claims.Judge(c.c, c.r)
		if !alike(v, c.want) {
			t.Errorf("case %d: %#v, want %#v", i, v, c.want)
		}
		if tree, err := claims.Make(c.c); err != nil || !alike(claims.Tree(tree, c.r), c.want) {
			t.Errorf("case %d: Tree: %v", i, err)
		}
		checkKind(t, v)
	}
	v := claims.Tree(nil, api.Rules{Now: -1})
	if b, ok := v.(*api.Broken); v == nil || !ok || b != nil {
		t.Errorf("Tree(nil): %#v", v)
	}
}

// alike tells whether two verdicts are of one type and say the same.
func alike(a, b api.Verdict) bool {
	x, ok := a.(api.Other)
	y, ok2 := b.(api.Other)
	if ok && ok2 {
		return slices.Equal(x.For, y.For)
	}
	return reflect.DeepEqual(a, b)
}

// checkKind: which interfaces a verdict is.
func checkKind(t *testing.T, v api.Verdict) {
	t.Helper()
	_, timed := v.(api.Timed)
	_, final := v.(api.Final)
	_, ended := v.(api.Ended)
	name := reflect.TypeOf(v).String()
	if v.Good() != (name == "api.Holds") || timed != strings.Contains(" api.Holds api.Early api.Over ", " "+name+" ") || final == (name == "api.Holds" || name == "api.Early") || ended != (name == "api.Over") {
		t.Errorf("%#v: %v, %v, %v", v, timed, final, ended)
	}
}

// random are claims that may be.
func random(r *rand.Rand) api.Claims {
	var c api.Claims
	list := func() []string {
		return [][]string{nil, {"a"}, {"b", "a"}, {"x", "y", "a"}, {"y"}}[r.Intn(5)]
	}
	for _, key := range has("about at by for from id may until") {
		if r.Intn(2) == 0 {
			continue
		}
		c.Has = append(c.Has, key)
		switch key {
		case "about":
			c.About = []string{"", "é"}[r.Intn(2)]
		case "at":
			c.At = int64(r.Intn(8))
		case "by":
			c.By = []string{"a", "b", ""}[r.Intn(3)]
		case "for":
			c.For = list()
		case "from":
			c.From = int64(r.Intn(8))
		case "id":
			c.ID = "i"
		case "may":
			c.May = list()
		case "until":
			c.Until = int64(r.Intn(14))
		}
	}
	return c
}

func rules(r *rand.Rand) api.Rules {
	out := api.Rules{Now: int64(r.Intn(14)), Slack: int64(r.Intn(4))}
	if r.Intn(4) == 0 {
		out.Who = "a"
	}
	if r.Intn(4) == 0 {
		out.By = []string{"a"}
	}
	if r.Intn(6) == 0 {
		out.Need = []string{"by"}
	}
	if r.Intn(4) == 0 {
		out.May = []string{"x", "y"}[r.Intn(2):]
	}
	return out
}

func TestThereAndBack(t *testing.T) {
	r := rand.New(rand.NewSource(1))
	for range 3000 {
		c := random(r)
		tree, err := claims.Make(c)
		if err != nil {
			t.Fatalf("Make(%v): %v", c, err)
		}
		if back, err := claims.Read(tree); err != nil || !same(back, c) {
			t.Fatalf("Read of Make(%v): %v, %v", c, back, err)
		}
	}
}

func TestChange(t *testing.T) {
	both := api.Claims{Has: has("from until"), From: 5, Until: 9}
	for i, c := range []struct {
		c    api.Claims
		r    api.Rules
		want int64
		ok   bool
	}{
		{both, api.Rules{Now: 1, Slack: 2}, 3, true}, {both, api.Rules{Now: 3, Slack: 2}, 11, true}, {both, api.Rules{Now: 11, Slack: 2}, 0, false}, {both, api.Rules{Now: 1, Slack: 2, Who: "x", May: []string{"y"}}, 3, true}, {api.Claims{}, api.Rules{}, 0, false}, {both, api.Rules{Need: []string{"by"}}, 0, false}, {api.Claims{Has: has("until"), Until: api.MaxTime}, api.Rules{}, api.MaxTime, true}, {api.Claims{Has: has("until"), Until: api.MaxTime}, api.Rules{Slack: 1}, 0, false}, {api.Claims{Has: has("from until"), From: 9, Until: 5}, api.Rules{}, 9, true}, {both, api.Rules{Now: -1}, 0, false}, {both, api.Rules{Slack: -1}, 0, false}, {both, api.Rules{Now: 4, Slack: 2}, 11, true}, {both, api.Rules{Now: 4, May: []string{"x"}}, 5, true}, {both, api.Rules{Now: 5, May: []string{"x"}}, 9, true},
	} {
		if time, ok := claims.Change(c.c, c.r); time != c.want || ok != c.ok {
			t.Errorf("case %d: %d, %v", i, time, ok)
		}
	}
	r := rand.New(rand.NewSource(2))
	for range 5000 {
		c, by := random(r), rules(r)
		now := reflect.TypeOf(claims.Judge(c, by))
		want, changes := int64(0), false
		for time := by.Now + 1; time < 40 && !changes; time++ {
			later := by
			later.Now = time
			if reflect.TypeOf(claims.Judge(c, later)) != now {
				want, changes = time, true
			}
		}
		if time, ok := claims.Change(c, by); time != want || ok != changes {
			t.Fatalf("Change(%v, %v): %d, %v, want %d", c, by, time, ok, want)
		}
	}
}

func TestWithin(t *testing.T) {
	c := func(keys string, f func(c *api.Claims)) api.Claims {
		out := api.Claims{Has: has(keys)}
		f(&out)
		return out
	}
	until9 := c("until", func(c *api.Claims) { c.Until = 9 })
	wide := c("about at by for from id may until", func(c *api.Claims) { c.For, c.From, c.May, c.Until = []string{"a", "b"}, 5, []string{"x"}, 9 })
	for i, k := range []struct {
		c, outer api.Claims
		want     error
	}{
		{until9, c("may until", func(c *api.Claims) { c.May, c.Until = []string{"x"}, 8 }), trails(api.ErrLack, "/may", api.ErrWider, "/until")}, {until9, until9, nil}, {until9, api.Claims{}, nil}, {api.Claims{}, wide, trails(api.ErrLack, "/about", api.ErrLack, "/at", api.ErrLack, "/by", api.ErrLack, "/for", api.ErrLack, "/from", api.ErrLack, "/id", api.ErrLack, "/may", api.ErrLack, "/until")}, {wide, wide, nil},
		{c("about at by for from id may until", func(c *api.Claims) {
			c.About, c.At, c.By, c.For, c.From, c.ID, c.May, c.Until = "x", 7, "y", []string{"b"}, 6, "z", nil, 8
		}), wide, nil}, {c("about at by for from id may until", func(c *api.Claims) {
			c.For, c.From, c.May, c.Until = []string{"a", "c"}, 4, []string{"x", "y"}, 10
		}), wide, trails(api.ErrWider, "/for", api.ErrWider, "/from", api.ErrWider, "/may", api.ErrWider, "/until")},
	} {
		if err := claims.Within(k.c, k.outer); !reflect.DeepEqual(err, k.want) {
			t.Errorf("case %d: %v, want %v", i, err, k.want)
		}
	}
}

func TestWorst(t *testing.T) {
	u := func(n int64) api.Claims { return api.Claims{Has: has("until"), Until: n} }
	for i, c := range []struct {
		l    []api.Claims
		r    api.Rules
		want api.Verdict
		at   int
	}{{[]api.Claims{u(5), {}}, api.Rules{Now: 1}, api.Holds{Until: 5}, -1}, {nil, api.Rules{Now: 1}, api.Holds{Until: -1}, -1}, {[]api.Claims{{}, u(9), u(4), u(7)}, api.Rules{Now: 1}, api.Holds{Until: 4}, -1}, {[]api.Claims{u(9), u(4), u(3)}, api.Rules{Now: 4}, api.Over{Until: 4}, 1}, {[]api.Claims{u(9)}, api.Rules{Now: -4}, &api.Broken{Err: api.ErrArg}, 0}, {nil, api.Rules{Now: -4}, api.Holds{Until: -1}, -1}, {[]api.Claims{{}, {}}, api.Rules{}, api.Holds{Until: -1}, -1}, {[]api.Claims{u(0)}, api.Rules{Slack: 1}, api.Holds{}, -1}} {
		if v, at := claims.Worst(c.l, c.r); !alike(v, c.want) || at != c.at {
			t.Errorf("case %d: %#v, %d", i, v, at)
		}
	}
}

// TestLaws: P25.8.
func TestLaws(t *testing.T) {
	r := rand.New(rand.NewSource(3))
	within := 0
	for range 20000 {
		c, by := random(r), rules(r)
		v := claims.Judge(c, by)
		checkKind(t, v)
		later := by
		later.Now += int64(r.Intn(10))
		if _, final := v.(api.Final); final {
			if _, still := claims.Judge(c, later).(api.Final); !still {
				t.Fatalf("%v by %v is final, and not later", c, by)
			}
		}
		if e, ok := v.(api.Early); ok {
			later.Now = e.When() - by.Slack
			if _, ok := claims.Judge(c, later).(api.Early); ok {
				t.Fatalf("%v by %v is early", c, later)
			}
		}
		later.Now = c.Until + by.Slack + int64(r.Intn(3))
		if slices.Contains(c.Has, "until") && claims.Judge(c, later).Good() {
			t.Fatalf("%v by %v is good", c, later)
		}
		outer := random(r)
		if claims.Within(c, outer) != nil {
			continue
		}
		within++
		switch claims.Judge(outer, by).(type) {
		case api.Over, api.Other:
			if v.Good() {
				t.Fatalf("%v within %v is good by %v", c, outer, by)
			}
		case api.Barred:
			if slices.Contains(outer.Has, "may") && v.Good() {
				t.Fatalf("%v within %v is good by %v", c, outer, by)
			}
		case api.Early:
			if !slices.Contains(outer.Has, "at") && v.Good() {
				t.Fatalf("%v within %v is good by %v", c, outer, by)
			}
		}
	}
	if within < 200 {
		t.Errorf("only %d are within", within)
	}
}

func TestMemory(t *testing.T) {
	c := api.Claims{Has: has("for may"), For: []string{"a"}, May: []string{"x"}}
	by := api.Rules{Who: "b", May: []string{"y"}}
	o := claims.Judge(c, by).(api.Other)
	o.For[0] = "spoilt"
	b := claims.Judge(c, api.Rules{May: by.May}).(api.Barred)
	b.May[0] = "spoilt"
	if c.For[0] != "a" || by.May[0] != "y" {
		t.Error("what was handed in is shared")
	}
	tree := read(t, `{"for":["a"],"may":["x"]}`)
	got, _ := claims.Read(tree)
	got.For[0], got.May[0], got.Has[0] = "spoilt", "spoilt", "spoilt"
	if again, _ := claims.Read(tree); !same(again, c) {
		t.Errorf("claims are shared: %v", again)
	}
}
