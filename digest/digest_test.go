package digest_test

import (
	"bytes"
	"crypto/sha256"
	"encoding/binary"
	"fmt"
	"math"
	"math/rand"
	"reflect"
	"slices"
	"strconv"
	"strings"
	"testing"

	"affidavit/api"
	"affidavit/canon"
	"affidavit/digest"
	"affidavit/node"
	"affidavit/parse"
	"affidavit/pointer"
)

func read(t testing.TB, s string) *node.Tree {
	t.Helper()
	tree, err := parse.Read([]byte(s), api.MaxDepth)
	if err != nil {
		t.Fatalf("%.80s: %v", s, err)
	}
	return tree
}

func form(tree *node.Tree) string {
	b, _ := canon.Bytes(tree)
	return string(b)
}

func of(t testing.TB, tree *node.Tree) api.Digest {
	t.Helper()
	d, err := digest.Of(tree)
	if err != nil {
		t.Fatal(err)
	}
	return d
}

// reckoner takes digests by the words of the document, and remembers the texts.
type reckoner struct{ texts [][]byte }

func (r *reckoner) h(parts ...any) api.Digest {
	var b []byte
	for _, p := range parts {
		switch x := p.(type) {
		case string:
			b = append(b, x...)
		case api.Digest:
			b = append(b, x[:]...)
		case uint64:
			b = binary.BigEndian.AppendUint64(b, x)
		}
	}
	r.texts = append(r.texts, b)
	return sha256.Sum256(b)
}

func half(n int) int {
	k := 1
	for 2*k < n {
		k *= 2
	}
	return k
}

func (r *reckoner) row(l []api.Digest) api.Digest {
	switch len(l) {
	case 0:
		return r.h("e")
	case 1:
		return r.h("\x00", l[0])
	}
	a := r.row(l[:half(len(l))])
	b := r.row(l[half(len(l)):])
	return r.h("\x01", a, b)
}

func (r *reckoner) member(key string, d api.Digest) api.Digest {
	return r.h("m", fmt.Sprintf("%d %s ", len(key), key), d)
}

func (r *reckoner) value(v api.Value) api.Digest {
	var l []api.Digest
	switch x := v.(type) {
	case api.Null:
		return r.h("n")
	case api.Flag:
		return r.h(map[api.Flag]string{true: "t", false: "f"}[x])
	case api.Number:
		return r.h("d", math.Float64bits(float64(x)))
	case api.Text:
		return r.h("s", string(x))
	case api.List:
		for _, u := range x {
			l = append(l, r.value(u))
		}
		row := r.row(l)
		return r.h("l", uint64(len(x)), row)
	}
	for _, m := range v.(api.Object) {
		d := r.value(m.Value)
		l = append(l, r.member(m.Key, d))
	}
	row := r.row(l)
	return r.h("o", uint64(len(l)), row)
}

func (r *reckoner) sides(l []api.Digest, i int) []api.Digest {
	if len(l) == 1 {
		return nil
	}
	k := half(len(l))
	if i < k {
		return append(r.sides(l[:k], i), r.row(l[k:]))
	}
	return append(r.sides(l[k:], i-k), r.row(l[:k]))
}

// level is the level of a place of a list or an object.
func (r *reckoner) level(v api.Value, i int) api.Level {
	var l []api.Digest
	switch x := v.(type) {
	case api.List:
		for _, u := range x {
			l = append(l, r.value(u))
		}
	case api.Object:
		for _, m := range x {
			l = append(l, r.member(m.Key, r.value(m.Value)))
		}
	}
	return api.Level{Sort: v.Sort(), Count: len(l), At: i, Sides: r.sides(l, i)}
}

// random is a value, as a document.
func random(r *rand.Rand, depth int) string {
	k := r.Intn(8)
	if depth == 1 {
		k = r.Intn(4)
	}
	var l []string
	switch {
	case k > 5:
		for range r.Intn(9) {
			key := []string{"a", "b", "c", "é", "", "\uff61", "😀", "a/b", "~", "zz"}[r.Intn(10)]
			if s := strconv.Quote(key) + ":"; !slices.ContainsFunc(l, func(m string) bool { return strings.HasPrefix(m, s) }) {
				l = append(l, s+random(r, depth-1))
			}
		}
		return "{" + strings.Join(l, ",") + "}"
	case k > 3:
		for range r.Intn(9) {
			l = append(l, random(r, depth-1))
		}
		return "[" + strings.Join(l, ",") + "]"
	}
	return [][]string{{"null", "true", "false"}, {"0", "1", "0.5"}, {`"a"`, `""`, `"é"`}, {"-1", `"x"`, "1e300"}}[k][r.Intn(3)]
}

func TestOfAndTexts(t *testing.T) {
	if d := of(t, read(t, "null")); d != sha256.Sum256([]byte("n")) {
		t.Errorf("Of(null): %x", d)
	}
	texts := digest.Texts(read(t, `["x"]`))
	d := sha256.Sum256([]byte("sx"))
	e := sha256.Sum256(append([]byte{0}, d[:]...))
	if want := [][]byte{[]byte("sx"), append([]byte{0}, d[:]...), append([]byte("l\x00\x00\x00\x00\x00\x00\x00\x01"), e[:]...)}; !reflect.DeepEqual(texts, want) {
		t.Errorf("Texts: %x", texts)
	}
	if d, err := digest.Of(nil); d != (api.Digest{}) || err != api.ErrNil || len(digest.Texts(nil)) != 0 {
		t.Errorf("Of(nil): %v", err)
	}
	r := rand.New(rand.NewSource(1))
	for range 2000 {
		tree := read(t, random(r, 4))
		var want reckoner
		d := want.value(tree.Value())
		texts := digest.Texts(tree)
		if of(t, tree) != d || !slices.EqualFunc(texts, want.texts, bytes.Equal) {
			t.Fatalf("Of(%s)", form(tree))
		}
		if a, b, ok := digest.Clash(texts, digest.Texts(read(t, random(r, 3)))); a != nil || b != nil || ok {
			t.Fatalf("Clash: %x, %x", a, b)
		}
	}
}

// TestUnlike: values that look alike have other digests.
func TestUnlike(t *testing.T) {
	seen := map[api.Digest]string{}
	for _, s := range []string{"null", "true", "false", "0", "1", `""`, `"n"`, `"0"`, "[]", "{}", "[[]]", "[null]", "[null,null]", "[[null]]", "[[null],null]", "[null,[null]]", `{"":null}`, `{"a":null}`, `{"a":{"b":1}}`, `{"a":1,"b":2}`, `{"b":1,"a":2}`, `["a",1]`, "[1,2,3]", "[[1,2],3]", "[1,[2,3]]", "[1,2,3,3]", `{"a":[]}`, `{"a":{}}`, `{"1 a":null}`} {
		d := of(t, read(t, s))
		if seen[d] != "" {
			t.Errorf("%s and %s", s, seen[d])
		}
		seen[d] = s
	}
	if of(t, read(t, `{"b":[1.0,-0],"a":"\u00e9"}`)) != of(t, read(t, `{"a":"é","b":[1,0]}`)) {
		t.Error("two values that are the same")
	}
}

func TestAt(t *testing.T) {
	tree := read(t, `{"a":[null]}`)
	if d, err := digest.At(tree, "/a/0"); d != of(t, read(t, "null")) || err != nil {
		t.Errorf("At: %v", err)
	}
	for p, want := range map[string]error{"/b": api.Trail{Err: api.ErrNone}, "a": api.Spot{Err: api.ErrPointer}, "/a/1": api.Trail{Err: api.ErrNone, Pointer: "/a"}} {
		d, err := digest.At(tree, p)
		proof, err2 := digest.Prove(tree, p)
		if d != (api.Digest{}) || err != want || len(proof.Levels) != 0 || err2 != want {
			t.Errorf("At, Prove(%s): %v, %v", p, err, err2)
		}
	}
	d, err := digest.At(nil, "x")
	proof, err2 := digest.Prove(nil, "x")
	if d != (api.Digest{}) || err != api.ErrNil || len(proof.Levels) != 0 || err2 != api.ErrNil {
		t.Errorf("At, Prove of nil: %v, %v", err, err2)
	}
}

func TestMany(t *testing.T) {
	r := rand.New(rand.NewSource(2))
	var trees []*node.Tree
	var want []api.Digest
	for range 300 {
		tree := read(t, random(r, 4))
		trees, want = append(trees, tree), append(want, of(t, tree))
	}
	for _, workers := range []int{1, 2, 7, 64} {
		for _, n := range []int{0, 1, 3, 300} {
			if got, err := digest.Many(trees[:n], workers); err != nil || !slices.Equal(got, want[:n]) {
				t.Errorf("Many of %d, %d workers: %v", n, workers, err)
			}
		}
	}
	long := make([]*node.Tree, api.MaxSteps+1)
	for i, c := range []struct {
		trees   []*node.Tree
		workers int
		want    error
	}{{nil, 0, api.ErrArg}, {nil, 65, api.ErrArg}, {long, -1, api.ErrArg}, {long, 1, api.ErrLong}, {long[1:], 1, api.Spot{Err: api.ErrNil}}, {[]*node.Tree{trees[0], trees[1], nil, nil}, 9, api.Spot{Err: api.ErrNil, At: 2}}} {
		if got, err := digest.Many(c.trees, c.workers); got != nil || err != c.want {
			t.Errorf("case %d: %v", i, err)
		}
	}
	most := slices.Repeat(trees[:1], api.MaxSteps)
	if got, err := digest.Many(most, 8); len(got) != api.MaxSteps || err != nil || got[api.MaxSteps-1] != want[0] {
		t.Errorf("Many of as many as may be: %v", err)
	}
}

func TestProveAndCheck(t *testing.T) {
	r := rand.New(rand.NewSource(3))
	for range 400 {
		tree := read(t, random(r, 4))
		whole := of(t, tree)
		for p, ref := range pointer.All(tree) {
			proof, err := digest.Prove(tree, p)
			tokens, _ := pointer.Parse(p)
			var want []api.Level
			at := tree.Root()
			for _, token := range tokens {
				var l api.Level
				for i := range at.Len() {
					key, keyed := at.Key(i)
					if keyed && key == token || !keyed && strconv.Itoa(i) == token {
						l = new(reckoner).level(at.Value(), i)
					}
				}
				want = append([]api.Level{l}, want...)
				at, _ = at.At(l.At)
			}
			if err != nil || !slices.EqualFunc(proof.Levels, want, sameLevel) {
				t.Fatalf("Prove(%s, %s): %v, %v", form(tree), p, proof, err)
			}
			if err := digest.Check(whole, p, ref.Tree(), proof); err != nil {
				t.Fatalf("Check(%s, %s): %v", form(tree), p, err)
			}
			checkOthers(t, r, tree, whole, p, ref.Tree(), proof)
		}
	}
}

func sameLevel(a, b api.Level) bool {
	return a.Sort == b.Sort && a.Count == b.Count && a.At == b.At && slices.Equal(a.Sides, b.Sides)
}

// copyOf is a proof in memory of its own.
func copyOf(p api.Proof) api.Proof {
	p.Levels = slices.Clone(p.Levels)
	for i := range p.Levels {
		p.Levels[i].Sides = slices.Clone(p.Levels[i].Sides)
	}
	return p
}

// checkOthers: with something else no Check goes.
func checkOthers(t *testing.T, r *rand.Rand, tree *node.Tree, whole api.Digest, p string, part *node.Tree, proof api.Proof) {
	t.Helper()
	other := read(t, random(r, 3))
	if err := digest.Check(whole, p, other, proof); !other.Same(part) && err != api.ErrSum {
		t.Fatalf("Check(%s, %s) of %s: %v", form(tree), p, form(other), err)
	}
	whole[r.Intn(32)] ^= 1 << r.Intn(8)
	if err := digest.Check(whole, p, part, proof); err != api.ErrSum {
		t.Fatalf("Check(%s, %s) of another digest: %v", form(tree), p, err)
	}
	whole = of(t, tree)
	if len(proof.Levels) == 0 {
		return
	}
	i := r.Intn(len(proof.Levels))
	for what, f := range map[string]func(l *api.Level) error{
		"sort":  func(l *api.Level) error { l.Sort = api.SortNumber; return api.Spot{Err: api.ErrLevels, At: i} },
		"none":  func(l *api.Level) error { l.Count = 0; return api.Spot{Err: api.ErrLevels, At: i} },
		"many":  func(l *api.Level) error { l.Count = api.MaxNodes + 1; return api.Spot{Err: api.ErrLevels, At: i} },
		"below": func(l *api.Level) error { l.At = -1; return api.Spot{Err: api.ErrLevels, At: i} },
		"above": func(l *api.Level) error { l.At = l.Count; return api.Spot{Err: api.ErrLevels, At: i} },
		"sides": func(l *api.Level) error { l.Sides = append(l.Sides, whole); return api.Spot{Err: api.ErrLevels, At: i} },
		"side": func(l *api.Level) error {
			if len(l.Sides) == 0 {
				return nil
			}
			l.Sides[r.Intn(len(l.Sides))][3] ^= 1
			return api.ErrSum
		},
		"fewer": func(l *api.Level) error {
			if len(l.Sides) == 0 {
				return nil
			}
			l.Sides = l.Sides[1:]
			return api.Spot{Err: api.ErrLevels, At: i}
		},
	} {
		changed := copyOf(proof)
		if want := f(&changed.Levels[i]); digest.Check(whole, p, part, changed) != want {
			t.Fatalf("Check(%s, %s), %s: %v, want %v", form(tree), p, what, digest.Check(whole, p, part, changed), want)
		}
	}
	n := len(proof.Levels)
	more := copyOf(proof)
	more.Levels = append(more.Levels, api.Level{})
	if err := digest.Check(whole, p, part, more); err != (api.Spot{Err: api.ErrLevels, At: n}) {
		t.Fatalf("Check(%s, %s), a level more: %v", form(tree), p, err)
	}
}

func TestCheckExamples(t *testing.T) {
	tree := read(t, "[1,2,3]")
	whole := of(t, tree)
	proof, _ := digest.Prove(tree, "/1")
	two := read(t, "2")
	null := of(t, read(t, "null"))
	if len(proof.Levels) != 1 || len(proof.Levels[0].Sides) != 2 {
		t.Fatalf("Prove: %v", proof)
	}
	object, _ := digest.Prove(read(t, `{"a":[1]}`), "/a/0")
	for i, c := range []struct {
		whole api.Digest
		p     string
		part  *node.Tree
		proof api.Proof
		want  error
	}{
		{whole, "/1", two, proof, nil}, {whole, "/1", read(t, "3"), proof, api.ErrSum}, {whole, "/2", two, proof, api.Spot{Err: api.ErrLevels}}, {whole, "/1", two, api.Proof{}, api.Spot{Err: api.ErrLevels, At: 1}}, {null, "/1", two, proof, api.ErrSum}, {whole, "x", nil, proof, api.ErrNil}, {whole, "x", two, proof, api.Spot{Err: api.ErrPointer}}, {whole, "", two, proof, api.Spot{Err: api.ErrLevels}}, {whole, "", tree, api.Proof{}, nil}, {whole, "/01", two, proof, api.Spot{Err: api.ErrLevels}}, {whole, "/-", two, proof, api.Spot{Err: api.ErrLevels}}, {whole, "/a/1", two, proof, api.Spot{Err: api.ErrLevels, At: 2}}, {whole, "/1/1", two, proof, api.Spot{Err: api.ErrLevels, At: 2}}, {whole, "/1/2", two, proof, api.Spot{Err: api.ErrLevels}},
		{of(t, read(t, `{"a":[1]}`)), "/a/0", read(t, "1"), object, nil}, {of(t, read(t, `{"a":[1]}`)), "/b/0", read(t, "1"), object, api.ErrSum}, {of(t, read(t, `{"b":[1]}`)), "/b/0", read(t, "1"), object, nil}, {whole, "/3", two, proof, api.Spot{Err: api.ErrLevels}}, {whole, "/\xFF", two, proof, api.Spot{Err: api.ErrText, At: 1}},
	} {
		if err := digest.Check(c.whole, c.p, c.part, c.proof); err != c.want {
			t.Errorf("case %d: %v, want %v", i, err, c.want)
		}
	}
}

func TestDenyExamples(t *testing.T) {
	tree := read(t, `{"a":1,"c":2}`)
	d, err := digest.Deny(tree, "/b")
	if err != nil || d.Count != 2 || len(d.Beside) != 2 || d.Beside[0].Key != "a" || d.Beside[0].At != 0 || d.Beside[1].Key != "c" || d.Beside[1].At != 1 || d.Beside[0].Value != of(t, read(t, "1")) || len(d.Proof.Levels) != 0 {
		t.Errorf("Deny: %v, %v", d, err)
	}
	whole := of(t, tree)
	for p, want := range map[string]error{"/b": nil, "/bb": nil, "/a": api.Spot{Err: api.ErrLevels}, "/c": api.Spot{Err: api.ErrLevels}, "/d": api.Spot{Err: api.ErrLevels}, "": api.ErrNone, "b": api.Spot{Err: api.ErrPointer}, "/x/b": api.Spot{Err: api.ErrLevels, At: 1}} {
		if err := digest.CheckDenial(whole, p, d); err != want {
			t.Errorf("CheckDenial(%s): %v, want %v", p, err, want)
		}
	}
	for _, c := range []struct {
		tree, p string
		want    error
	}{
		{`{"a":1}`, "/a", api.Trail{Err: api.ErrTwice, Pointer: "/a"}}, {"[1]", "/0", api.Trail{Err: api.ErrSort}}, {"1", "", api.ErrNone}, {`{"x":[1]}`, "/x/0", api.Trail{Err: api.ErrSort, Pointer: "/x"}}, {`{"x":1}`, "/y/z", api.Trail{Err: api.ErrNone}}, {`{"x":1}`, "y", api.Spot{Err: api.ErrPointer}}, {`{"x":null}`, "/x/y", api.Trail{Err: api.ErrSort, Pointer: "/x"}}, {`{"x":{"y":1}}`, "/x/y", api.Trail{Err: api.ErrTwice, Pointer: "/x/y"}},
	} {
		if d, err := digest.Deny(read(t, c.tree), c.p); err != c.want || d.Count != 0 || d.Beside != nil || d.Proof.Levels != nil {
			t.Errorf("Deny(%s, %s): %v", c.tree, c.p, err)
		}
	}
	if _, err := digest.Deny(nil, "x"); err != api.ErrNil {
		t.Errorf("Deny of nil: %v", err)
	}
	if d, err := digest.Deny(read(t, "{}"), "/x"); err != nil || d.Count != 0 || len(d.Beside) != 0 || digest.CheckDenial(of(t, read(t, "{}")), "/y", d) != nil {
		t.Errorf("Deny of an object without members: %v", err)
	}
}

func TestDenials(t *testing.T) {
	r := rand.New(rand.NewSource(4))
	denied := 0
	for range 600 {
		tree := read(t, random(r, 4))
		whole := of(t, tree)
		for p, ref := range pointer.All(tree) {
			for _, key := range []string{"", "a", "aa", "b", "\uff60", "\uff62", "😁", "zzz", "~/"} {
				at, _ := pointer.Down(p, key)
				d, err := digest.Deny(tree, at)
				_, has := ref.Find(key)
				switch {
				case ref.Sort() != api.SortObject:
					if err != (api.Trail{Err: api.ErrSort, Pointer: p}) {
						t.Fatalf("Deny(%s, %s): %v", form(tree), at, err)
					}
					continue
				case has:
					if err != (api.Trail{Err: api.ErrTwice, Pointer: at}) {
						t.Fatalf("Deny(%s, %s): %v", form(tree), at, err)
					}
					continue
				}
				denied++
				if err != nil || digest.CheckDenial(whole, at, d) != nil {
					t.Fatalf("Deny(%s, %s): %v, %v", form(tree), at, err, digest.CheckDenial(whole, at, d))
				}
				checkDenial(t, r, tree, ref, at, d)
			}
		}
	}
	if denied < 1000 {
		t.Errorf("only %d denials", denied)
	}
}

// checkDenial: what a denial has, and that with something else no CheckDenial goes.
func checkDenial(t *testing.T, r *rand.Rand, tree *node.Tree, ref node.Ref, p string, d api.Denial) {
	t.Helper()
	up, key, _ := pointer.Up(p)
	proof, _ := digest.Prove(tree, up)
	if d.Count != ref.Len() || !slices.EqualFunc(d.Proof.Levels, proof.Levels, sameLevel) || len(d.Beside) != min(2, d.Count, len(d.Beside)) || (d.Count > 0) != (len(d.Beside) > 0) {
		t.Fatalf("Deny(%s, %s): %v", form(tree), p, d)
	}
	for _, n := range d.Beside {
		v, _ := ref.At(n.At)
		k, _ := ref.Key(n.At)
		if k != n.Key || of(t, v.Tree()) != n.Value || !slices.Equal(n.Sides, new(reckoner).level(ref.Value(), n.At).Sides) {
			t.Fatalf("Deny(%s, %s): %v", form(tree), p, n)
		}
	}
	whole := of(t, tree)
	levels := error(api.Spot{Err: api.ErrLevels})
	change := func(what string, want error, f func(d *api.Denial)) {
		t.Helper()
		changed := d
		changed.Proof = copyOf(d.Proof)
		changed.Beside = slices.Clone(d.Beside)
		for i := range changed.Beside {
			changed.Beside[i].Sides = slices.Clone(changed.Beside[i].Sides)
		}
		f(&changed)
		if err := digest.CheckDenial(whole, p, changed); err != want {
			t.Fatalf("CheckDenial(%s, %s), %s: %v, want %v", form(tree), p, what, err, want)
		}
	}
	change("a count below", api.ErrArg, func(d *api.Denial) { d.Count = -1 })
	change("a count too great", api.ErrArg, func(d *api.Denial) { d.Count = api.MaxNodes + 1 })
	if len(d.Beside) == 0 {
		change("a member too many", levels, func(d *api.Denial) { d.Beside = []api.Neighbour{{Key: "\uffff"}} })
		change("another count", levels, func(d *api.Denial) { d.Count = 1 })
		return
	}
	i := r.Intn(len(d.Beside))
	change("no member", levels, func(d *api.Denial) { d.Beside = nil })
	change("three", levels, func(d *api.Denial) { d.Beside = append(d.Beside, d.Beside[0], d.Beside[0]) })
	change("the key itself", levels, func(d *api.Denial) { d.Beside[i].Key = key })
	change("no right text", levels, func(d *api.Denial) { d.Beside[i].Key = "\xFF" })
	change("a side more", levels, func(d *api.Denial) { d.Beside[i].Sides = append(d.Beside[i].Sides, whole) })
	change("a place below", levels, func(d *api.Denial) { d.Beside[i].At = -1 })
	change("a place above", levels, func(d *api.Denial) { d.Beside[i].At = d.Count })
	change("another value", api.ErrSum, func(d *api.Denial) { d.Beside[i].Value[0] ^= 1 })
	change("a level more", api.Spot{Err: api.ErrLevels, At: len(d.Proof.Levels)}, func(d *api.Denial) { d.Proof.Levels = append(d.Proof.Levels, api.Level{}) })
	if len(d.Beside) == 2 {
		change("one of two", levels, func(d *api.Denial) { d.Beside = d.Beside[i : i+1] })
		change("turned about", levels, func(d *api.Denial) { slices.Reverse(d.Beside) })
		change("the first one twice", levels, func(d *api.Denial) { d.Beside[1] = d.Beside[0] })
	}
	if len(d.Proof.Levels) > 0 {
		change("a level less", api.Spot{Err: api.ErrLevels, At: len(d.Proof.Levels)}, func(d *api.Denial) { d.Proof.Levels = d.Proof.Levels[:len(d.Proof.Levels)-1] })
	}
	whole[5] ^= 1
	change("another whole", api.ErrSum, func(*api.Denial) {})
}

func TestClash(t *testing.T) {
	a, b := []byte("a"), []byte("b")
	for i, c := range [][2][][]byte{{{a}, {a}}, {nil, {a}}, {{a}, nil}, {{a, b}, {b, a, a}}, {nil, nil}} {
		if x, y, ok := digest.Clash(c[0], c[1]); x != nil || y != nil || ok {
			t.Errorf("case %d: %s, %s", i, x, y)
		}
	}
}

func TestMemory(t *testing.T) {
	tree := read(t, `{"a":[1,2,3],"b":1}`)
	proof, _ := digest.Prove(tree, "/a/1")
	for i := range proof.Levels {
		for k := range proof.Levels[i].Sides {
			proof.Levels[i].Sides[k] = api.Digest{}
		}
		_ = append(proof.Levels[i].Sides, api.Digest{1})
	}
	again, _ := digest.Prove(tree, "/a/1")
	if digest.Check(of(t, tree), "/a/1", read(t, "2"), again) != nil {
		t.Error("proofs are shared")
	}
	texts := digest.Texts(tree)
	for i := range texts {
		for k := range texts[i] {
			texts[i][k] = 0
		}
	}
	if _, _, ok := digest.Clash(digest.Texts(tree), digest.Texts(tree)); ok {
		t.Error("texts are shared")
	}
	trees := []*node.Tree{tree, tree}
	if got, err := digest.Many(trees, 2); err != nil || got[0] != got[1] || trees[0] != tree {
		t.Errorf("Many: %v", err)
	}
}

func TestWideAndDeep(t *testing.T) {
	deep := read(t, strings.Repeat(`{"a":[`, 255)+"1"+strings.Repeat("]}", 255))
	p := strings.Repeat("/a/0", 255)
	proof, err := digest.Prove(deep, p)
	if err != nil || len(proof.Levels) != 510 || digest.Check(of(t, deep), p, read(t, "1"), proof) != nil {
		t.Errorf("a deep value: %v", err)
	}
	wide := read(t, "["+strings.TrimSuffix(strings.Repeat("1,", 65535), ",")+"]")
	proof, err = digest.Prove(wide, "/0")
	if err != nil || len(proof.Levels[0].Sides) != 16 || digest.Check(of(t, wide), "/0", read(t, "1"), proof) != nil {
		t.Errorf("a wide value: %v", err)
	}
}
