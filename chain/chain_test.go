package chain_test

import (
	"bytes"
	"crypto/hmac"
	"crypto/sha256"
	"fmt"
	"math/rand"
	"reflect"
	"slices"
	"strings"
	"testing"

	"affidavit/api"
	"affidavit/chain"
	"affidavit/claims"
	"affidavit/envelope"
	"affidavit/node"
	"affidavit/parse"
)

func read(t testing.TB, s string) *node.Tree {
	t.Helper()
	tree, err := parse.Read([]byte(s), api.MaxDepth)
	if err != nil {
		t.Fatalf("%.80s: %v", s, err)
	}
	return tree
}

func key(name string, c byte) api.Key {
	return api.Key{Name: name, Secret: bytes.Repeat([]byte{c}, 16)}
}

func seal(t testing.TB, s, kind string, ring ...api.Key) []byte {
	t.Helper()
	b, err := envelope.Seal(read(t, s), kind, ring)
	if err != nil {
		t.Fatalf("Seal: %v", err)
	}
	return b
}

// claim are the claims of a grant.
func claim(by, about string, may string, until int64) api.Claims {
	c := api.Claims{Has: []string{"about", "by", "may"}, About: about, By: by, May: strings.Fields(may)}
	if until >= 0 {
		c.Has, c.Until = append(c.Has, "until"), until
	}
	return c
}

func grant(t testing.TB, k api.Key, c api.Claims) ([]byte, api.Key) {
	t.Helper()
	b, granted, err := chain.Grant(k, c)
	if err != nil {
		t.Fatalf("Grant(%v): %v", c, err)
	}
	return b, granted
}

// world is that of the document's examples.
type world struct {
	root, a, b api.Key
	g, h, s, t []byte
}

func examples(t testing.TB) world {
	w := world{root: key("R", 0)}
	w.g, w.a = grant(t, w.root, claim("R", "a", "x y", 100))
	w.h, w.b = grant(t, w.a, claim("a", "b", "x", 50))
	w.s, w.t = seal(t, `{"s":1}`, "x", w.b), seal(t, `{"s":1}`, "y", w.b)
	return w
}

func TestGrant(t *testing.T) {
	w := examples(t)
	want := seal(t, `{"about":"a","by":"R","may":["x","y"],"until":100}`, "grant", w.root)
	if !bytes.Equal(w.g, want) {
		t.Errorf("Grant: %s", w.g)
	}
	// HKDF's first 32 bytes, of the secret and the row of the word and the grant.
	m := hmac.New(sha256.New, w.root.Secret)
	fmt.Fprintf(m, "15 affidavit/grant %d %s \x01", len(w.g), w.g)
	if w.a.Name != "a" || !bytes.Equal(w.a.Secret, m.Sum(nil)) {
		t.Errorf("the granted key: %v", w.a)
	}
	without := claim("R", "a", "x", -1)
	without.Has, without.May = []string{"about", "by"}, nil
	wide := claim("R", "a", strings.Repeat("x", api.MaxBytes), -1)
	long := claim("R", "a", strings.Repeat("x", api.MaxBytes-100), -1)
	for i, c := range []struct {
		k    api.Key
		c    api.Claims
		want error
	}{
		{w.root, claim("a", "b", "x", -1), api.ErrArg}, {w.root, without, api.ErrArg}, {w.root, claim("R", "", "x", -1), api.ErrArg}, {w.root, claim("R", strings.Repeat("n", 65), "x", -1), api.ErrArg}, {w.root, claim("R", strings.Repeat("n", 64), "x", -1), nil}, {api.Key{Name: "R"}, claim("R", "a", "x", -1), api.ErrArg}, {w.root, claim("R", "a", "x x", -1), api.ErrArg}, {w.root, api.Claims{}, api.ErrArg}, {w.root, claim("R", "\xFF", "x", -1), api.ErrArg}, {w.root, claim("R", "R", "", 0), nil}, {w.root, wide, api.ErrLong}, {w.root, long, api.ErrLong},
	} {
		b, k, err := chain.Grant(c.k, c.c)
		if err != c.want || (b == nil) != (err != nil) || (k.Secret == nil) != (err != nil) || err != nil && k.Name != "" {
			t.Errorf("case %d: %v, want %v", i, err, c.want)
		}
	}
}

func TestKeyAndLast(t *testing.T) {
	w := examples(t)
	same := func(a, b api.Key) bool { return a.Name == b.Name && bytes.Equal(a.Secret, b.Secret) }
	if k, err := chain.Key(w.root, w.g); err != nil || !same(k, w.a) {
		t.Errorf("Key: %v, %v", k, err)
	}
	two := seal(t, `{"about":"a","by":"R","may":[]}`, "grant", w.root, key("S", 1))
	if k, err := chain.Key(w.root, two); err != nil || k.Name != "a" {
		t.Errorf("Key of a grant with two seals: %v", err)
	}
	other := api.Key{Name: "R", Secret: make([]byte, 17)}
	other.Secret[3] = 1
	for i, c := range []struct {
		k    api.Key
		b    []byte
		want error
	}{
		{w.root, w.h, api.ErrGrant}, {w.root, w.s, api.ErrGrant}, {api.Key{}, w.g, api.ErrArg}, {api.Key{}, nil, api.ErrArg}, {w.root, nil, api.Spot{Err: api.ErrEnd}}, {w.root, []byte("{}"), api.Trail{Err: api.ErrEnvelope}}, {other, w.g, api.ErrGrant}, {w.root, seal(t, `{"about":"a","by":"R","may":[]}`, "grants", w.root), api.ErrGrant}, {w.root, seal(t, `{"about":"a","by":"S","may":[]}`, "grant", w.root), api.ErrGrant}, {w.root, seal(t, `{"about":"","by":"R","may":[]}`, "grant", w.root), api.ErrGrant}, {w.root, seal(t, `{"about":"a","by":"R"}`, "grant", w.root), api.ErrGrant}, {w.root, seal(t, `{"about":"a","by":"R","may":1}`, "grant", w.root), api.ErrGrant}, {w.root, seal(t, "1", "grant", w.root), api.ErrGrant}, {w.root, seal(t, `{"about":"a","by":"R","may":[]}`, "grant", key("S", 1)), api.ErrGrant},
	} {
		if k, err := chain.Key(c.k, c.b); k.Name != "" || k.Secret != nil || err != c.want {
			t.Errorf("case %d: %v, want %v", i, err, c.want)
		}
		if k, err := chain.Last(c.k, c.b); k.Name != "" || k.Secret != nil || err != c.want {
			t.Errorf("case %d: Last: %v, want %v", i, err, c.want)
		}
	}
	if k, err := chain.Last(w.root, w.g, w.h); err != nil || !same(k, w.b) {
		t.Errorf("Last: %v, %v", k, err)
	}
	k, err := chain.Last(w.root)
	if err != nil || !same(k, w.root) {
		t.Errorf("Last of no grants: %v, %v", k, err)
	}
	k.Secret[0] = 9
	if w.root.Secret[0] != 0 {
		t.Error("a key is shared")
	}
	if _, err := chain.Last(w.root, w.g, w.g); err != api.ErrGrant {
		t.Errorf("Last: %v", err)
	}
	many := make([][]byte, api.MaxChain+1)
	if _, err := chain.Last(api.Key{}, many...); err != api.ErrLong {
		t.Errorf("Last of too many: %v", err)
	}
	if _, err := chain.Last(api.Key{}, many[1:]...); err != api.ErrArg {
		t.Errorf("Last of as many as may be: %v", err)
	}
}

// alike tells whether two standings say the same.
func alike(a, b api.Standing) bool {
	x, ok := a.(api.Doubts)
	y, ok2 := b.(api.Doubts)
	if ok && ok2 {
		return x.N == y.N && reflect.TypeOf(x.Trust) == reflect.TypeOf(y.Trust) && slices.Equal(x.Trust.Good(), y.Trust.Good())
	}
	return reflect.DeepEqual(a, b)
}

func TestVerifyExamples(t *testing.T) {
	w := examples(t)
	wider, wb := grant(t, w.a, claim("a", "b", "x", 200))
	by := []api.Key{w.root}
	all := func(g ...[]byte) [][]byte { return g }
	at := func(now int64) api.Rules { return api.Rules{Now: now} }
	weak := api.Weak{Need: 1}
	noName := seal(t, `{"about":"","by":"R","may":["x"]}`, "grant", w.root)
	other := api.Key{Name: "R", Secret: w.a.Secret}
	forC := claim("R", "a", "x", -1)
	forC.Has, forC.For = []string{"about", "by", "for", "may"}, []string{"c"}
	g2, a2 := grant(t, w.root, forC)
	lacksFor, _ := grant(t, a2, claim("a", "b", "x", -1))
	for i, c := range []struct {
		ring   []api.Key
		grants [][]byte
		b      []byte
		r      api.Rules
		want   api.Standing
	}{
		{by, all(w.g, w.h), w.s, at(10), api.Stands{N: 2, By: []string{"b"}, Until: 50}}, {by, all(w.g, w.h), w.t, at(10), api.Fails{N: 2, Why: api.Barred{May: []string{"y"}}}}, {by, all(w.g, w.h), w.s, at(60), api.Fails{N: 1, Why: api.Over{Until: 50}}}, {by, all(w.g, w.h), w.s, at(100), api.Fails{N: 0, Why: api.Over{Until: 100}}}, {by, all(w.h), w.s, at(10), api.Doubts{N: 0, Trust: weak}}, {by, all(w.g), w.s, at(10), api.Doubts{N: 1, Trust: weak}}, {by, all(w.g, w.g), w.s, at(10), api.Doubts{N: 1, Trust: weak}}, {by, all(w.g, seal(t, "1", "x", w.a)), w.s, at(10), api.Breaks{N: 1, Err: api.ErrGrant}}, {by, nil, seal(t, "1", "z", w.root), at(10), api.Stands{N: 0, By: []string{"R"}, Until: -1}}, {by, all(w.g, wider), seal(t, "1", "x", wb), at(10), api.Breaks{N: 1, Err: api.All{api.Trail{Err: api.ErrWider, Pointer: "/until"}}}}, {by, all([]byte("x")), w.s, at(10), api.Breaks{N: 0, Err: api.Spot{Err: api.ErrSyntax}}},
		{nil, nil, w.s, at(10), api.Doubts{N: 0, Trust: weak}}, {by, all(w.g, w.h), []byte("{}"), at(10), api.Breaks{N: 2, Err: api.Trail{Err: api.ErrEnvelope}}}, {by, nil, nil, at(10), api.Breaks{N: 0, Err: api.Spot{Err: api.ErrEnd}}}, {by, all(noName), w.s, at(10), api.Breaks{N: 0, Err: api.ErrGrant}}, {by, all(seal(t, "[1]", "grant", w.root)), w.s, at(10), api.Breaks{N: 0, Err: api.Trail{Err: api.ErrSort}}}, {by, all(seal(t, `{"about":"a","by":"R"}`, "grant", w.root)), w.s, at(10), api.Fails{N: 0, Why: api.Lacks{Claim: "may"}}}, {by, all(seal(t, `{"about":"a","by":"S","may":[]}`, "grant", w.root)), w.s, at(10), api.Fails{N: 0, Why: api.Alien{By: "S"}}}, {[]api.Key{other}, all(w.g), w.s, at(10), api.Doubts{N: 0, Trust: api.False{Not: []string{"R"}}}}, {by, all(w.g, w.h), seal(t, "1", "x", api.Key{Name: "b", Secret: w.a.Secret}), at(10), api.Doubts{N: 2, Trust: api.False{Not: []string{"b"}}}},
		{by, all(w.g, w.h), w.s, api.Rules{Now: 10, Need: []string{"until"}, By: []string{"nobody"}, May: []string{"x", "z"}, Who: "q"}, api.Stands{N: 2, By: []string{"b"}, Until: 50}}, {by, all(w.g, w.h), w.s, api.Rules{Now: 10, May: []string{"z"}}, api.Fails{N: 2, Why: api.Barred{May: []string{"x"}}}}, {by, all(w.g, w.h), w.s, api.Rules{Now: 10, Need: []string{"until", "id"}}, api.Fails{N: 0, Why: api.Lacks{Claim: "id"}}}, {by, all(g2), seal(t, "1", "x", a2), api.Rules{Who: "d"}, api.Fails{N: 0, Why: api.Other{For: []string{"c"}}}}, {by, all(g2), seal(t, "1", "x", a2), api.Rules{Who: "c"}, api.Stands{N: 1, By: []string{"a"}, Until: -1}}, {by, all(g2, lacksFor), w.s, at(0), api.Breaks{N: 1, Err: api.All{api.Trail{Err: api.ErrLack, Pointer: "/for"}}}}, {by, all(w.g, w.h), w.s, api.Rules{Now: 50, Slack: 1}, api.Stands{N: 2, By: []string{"b"}, Until: 50}}, {by, nil, seal(t, "1", "z", w.root), api.Rules{May: []string{"y"}}, api.Fails{N: 0, Why: api.Barred{May: []string{"z"}}}},
	} {
		tree, standing, err := chain.Verify(c.ring, c.grants, c.b, c.r)
		_, stands := c.want.(api.Stands)
		if err != nil || !alike(standing, c.want) || (tree != nil) != stands {
			t.Errorf("case %d: %#v, %v, want %#v", i, standing, err, c.want)
		}
		checkKind(t, standing)
	}
	if tree, _, _ := chain.Verify(by, all(w.g, w.h), w.s, at(10)); !tree.Same(read(t, `{"s":1}`)) {
		t.Error("the value of a statement that stands")
	}
	many := make([][]byte, api.MaxChain+1)
	for i, c := range []struct {
		ring   []api.Key
		grants [][]byte
		r      api.Rules
		want   error
	}{{[]api.Key{w.root, w.root}, nil, at(1), api.ErrArg}, {[]api.Key{{}}, many, at(1), api.ErrArg}, {by, many, at(1), api.ErrLong}, {by, many, at(-1), api.ErrArg}, {by, nil, api.Rules{Slack: -1}, api.ErrArg}, {by, nil, at(api.MaxTime + 1), api.ErrArg}} {
		if tree, standing, err := chain.Verify(c.ring, c.grants, w.s, c.r); tree != nil || standing != nil || err != c.want {
			t.Errorf("case %d: %v, want %v", i, err, c.want)
		}
	}
}

// checkKind: which interfaces a standing is.
func checkKind(t *testing.T, s api.Standing) {
	t.Helper()
	_, judged := s.(api.Judged)
	_, caused := s.(api.Caused)
	_, fails := s.(api.Fails)
	_, breaks := s.(api.Breaks)
	if judged != fails || caused != breaks {
		t.Errorf("%#v: %v, %v", s, judged, caused)
	}
}

func TestPath(t *testing.T) {
	w := examples(t)
	for i, c := range []struct {
		grants [][]byte
		want   []string
		err    error
	}{
		{[][]byte{w.g, w.h}, []string{"R", "a", "b"}, nil}, {nil, nil, nil}, {[][]byte{w.h}, []string{"a", "b"}, nil}, {[][]byte{w.s, w.h}, []string{"", "", "b"}, nil}, {[][]byte{w.g, []byte("{}")}, nil, api.Trail{Err: api.ErrEnvelope}}, {[][]byte{w.g, seal(t, "1", "x", w.a)}, nil, api.Trail{Err: api.ErrSort}}, {[][]byte{nil, seal(t, "1", "x", w.a)}, nil, api.Spot{Err: api.ErrEnd}}, {make([][]byte, api.MaxChain+1), nil, api.ErrLong}, {slices.Repeat([][]byte{w.g}, api.MaxChain), append([]string{"R"}, slices.Repeat([]string{"a"}, api.MaxChain)...), nil},
	} {
		if got, err := chain.Path(c.grants); !slices.Equal(got, c.want) || !reflect.DeepEqual(err, c.err) {
			t.Errorf("case %d: %q, %v", i, got, err)
		}
	}
	bad := seal(t, `{"at":-1}`, "x", w.a)
	if got, err := chain.Path([][]byte{bad}); got != nil || !reflect.DeepEqual(err, error(api.All{api.Trail{Err: api.ErrTime, Pointer: "/at"}})) {
		t.Errorf("Path: %q, %v", got, err)
	}
}

// TestChains: what is granted stands, never more, and no other one.
func TestChains(t *testing.T) {
	r := rand.New(rand.NewSource(1))
	stood := 0
	for range 400 {
		ring := []api.Key{key("R", 1), key("S", 2)}
		k := ring[r.Intn(2)]
		may := []string{"x", "y", "z", "w"}
		until := int64(60)
		var grants [][]byte
		var all []api.Claims
		n := r.Intn(5)
		for i := range n {
			c := claim(k.Name, fmt.Sprint("n", i), strings.Join(may, " "), until)
			var b []byte
			b, k = grant(t, k, c)
			grants, all = append(grants, b), append(all, c)
			until -= int64(r.Intn(20))
			r.Shuffle(len(may), func(i, j int) { may[i], may[j] = may[j], may[i] })
			may = may[:max(1, len(may)-r.Intn(2))]
		}
		kind := []string{"x", "y", "z", "w"}[r.Intn(4)]
		s := seal(t, `{"v":1}`, kind, k)
		rules := api.Rules{Now: int64(r.Intn(70)), Slack: int64(r.Intn(3))}
		tree, standing, err := chain.Verify(ring, grants, s, rules)
		if err != nil {
			t.Fatal(err)
		}
		holds, least := true, int64(-1)
		for _, c := range all {
			holds = holds && claims.Judge(c, rules).Good() && slices.Contains(c.May, kind)
			least = c.Until
		}
		st, stands := standing.(api.Stands)
		if stands != holds || stands && (st.N != n || !slices.Equal(st.By, []string{k.Name}) || st.Until != least || tree == nil) {
			t.Fatalf("%v at %d, the kind %s: %#v", all, rules.Now, kind, standing)
		}
		if !stands {
			checkEnds(t, ring, grants, s, rules, standing)
			continue
		}
		stood++
		if n > 0 { // another row of bytes in the place of a grant
			i := r.Intn(n)
			other := slices.Clone(grants)
			by := ring[0]
			if i > 0 {
				by, _ = chain.Last(keyOf(ring, all[0].By), grants[:i]...)
			} else {
				by = keyOf(ring, all[0].By)
			}
			c := all[i]
			c.Has, c.ID = []string{"about", "by", "id", "may", "until"}, "other"
			other[i], _ = grant(t, by, c)
			if _, standing, _ := chain.Verify(ring, other, s, rules); reflect.TypeOf(standing) == reflect.TypeOf(st) {
				t.Fatalf("with another grant: %#v", standing)
			}
		}
	}
	if stood < 50 {
		t.Errorf("only %d stood", stood)
	}
}

func keyOf(ring []api.Key, name string) api.Key {
	return ring[slices.IndexFunc(ring, func(k api.Key) bool { return k.Name == name })]
}

// checkEnds: with other grants behind the place at which it ended, the same is told.
func checkEnds(t *testing.T, ring []api.Key, grants [][]byte, s []byte, rules api.Rules, standing api.Standing) {
	t.Helper()
	n := standing.Depth()
	if n >= len(grants) {
		return
	}
	_, again, err := chain.Verify(ring, append(slices.Clone(grants[:n+1]), []byte("x")), s, rules)
	if err != nil || !alike(again, standing) {
		t.Fatalf("with other grants behind: %#v, want %#v", again, standing)
	}
}

func TestMemory(t *testing.T) {
	w := examples(t)
	ring := []api.Key{w.root}
	r := api.Rules{Now: 10, Need: make([]string, 0, 8)}
	_, s, _ := chain.Verify(ring, [][]byte{w.g, w.h}, w.s, r)
	s.(api.Stands).By[0] = "spoilt"
	if _, s, _ := chain.Verify(ring, [][]byte{w.g, w.h}, w.s, r); s.(api.Stands).By[0] != "b" || ring[0].Name != "R" || !bytes.Equal(ring[0].Secret, make([]byte, 16)) {
		t.Error("something is shared")
	}
}
