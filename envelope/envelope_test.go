package envelope_test

import (
	"bytes"
	"crypto/hmac"
	"crypto/sha256"
	"encoding/base64"
	"fmt"
	"math"
	"math/rand"
	"reflect"
	"slices"
	"strings"
	"testing"
	"unicode/utf16"

	"affidavit/api"
	"affidavit/canon"
	"affidavit/envelope"
	"affidavit/node"
	"affidavit/parse"
)

func read(t testing.TB, s string) *node.Tree {
	t.Helper()
	tree, err := parse.Read([]byte(s), api.MaxDepth)
	if err != nil {
		t.Fatalf("%.80s: %v", s, err)
	}
	return tree
}

func key(name string, c byte) api.Key {
	return api.Key{Name: name, Secret: bytes.Repeat([]byte{c}, 16)}
}

var k, l = key("k", 0), key("l", 1)

func web(b []byte) string { return base64.RawURLEncoding.EncodeToString(b) }

// letters are those of a key's seal, by the words of the document.
func letters(key api.Key, kind, form string) string {
	h := hmac.New(sha256.New, key.Secret)
	for _, part := range []string{"affidavit/1", kind, form} {
		fmt.Fprintf(h, "%d %s ", len(part), part)
	}
	return web(h.Sum(nil))
}

// written is the envelope of a form, a kind and a ring, whose names rise.
func written(kind, form string, ring ...api.Key) string {
	var seals []string
	for _, key := range ring {
		name, _ := canon.Quote(key.Name)
		seals = append(seals, `{"name":`+name+`,"seal":"`+letters(key, kind, form)+`"}`)
	}
	quoted, _ := canon.Quote(kind)
	return `{"kind":` + quoted + `,"payload":"` + web([]byte(form)) + `","seals":[` + strings.Join(seals, ",") + "]}"
}

func seal(t testing.TB, s, kind string, ring ...api.Key) []byte {
	t.Helper()
	b, err := envelope.Seal(read(t, s), kind, ring)
	if err != nil {
		t.Fatalf("Seal: %v", err)
	}
	return b
}

func TestSeal(t *testing.T) {
	b := seal(t, `{"a":1}`, "t", l, k)
	if string(b) != written("t", `{"a":1}`, k, l) || !strings.HasPrefix(string(b), `{"kind":"t","payload":"eyJhIjoxfQ","seals":[{"name":"k","seal":"`) {
		t.Errorf("Seal: %s", b)
	}
	x, y := key("\uff61", 3), key("😀", 4)
	if b := seal(t, " [1.0] ", "é\"", x, y, k); string(b) != written("é\"", "[1]", k, y, x) {
		t.Errorf("Seal: %s", b)
	}
	tree := read(t, "1")
	long := strings.Repeat("k", 256)
	many := make([]api.Key, 65)
	for i := range many {
		many[i] = key(fmt.Sprint("k", i), byte(i))
	}
	secret := func(n int) api.Key { return api.Key{Name: "s", Secret: make([]byte, n)} }
	named := func(name string) api.Key { return api.Key{Name: name, Secret: make([]byte, 16)} }
	for i, c := range []struct {
		t    *node.Tree
		kind string
		ring []api.Key
		want error
	}{
		{nil, "", nil, api.ErrNil}, {tree, "", []api.Key{k}, api.ErrArg}, {tree, "t", nil, api.ErrArg}, {tree, "t", []api.Key{secret(15)}, api.ErrArg}, {tree, "t", []api.Key{secret(16)}, nil}, {tree, "t", []api.Key{secret(4096)}, nil}, {tree, "t", []api.Key{secret(4097)}, api.ErrArg}, {tree, "\xFF", []api.Key{k}, api.ErrArg}, {tree, long, []api.Key{k}, nil}, {tree, long + "k", []api.Key{k}, api.ErrArg}, {tree, "t", []api.Key{k, l, k}, api.ErrArg}, {tree, "t", []api.Key{named("")}, api.ErrArg}, {tree, "t", []api.Key{named(long[:64])}, nil}, {tree, "t", []api.Key{named(long[:65])}, api.ErrArg}, {tree, "t", []api.Key{named("\xED\xA0\x80")}, api.ErrArg}, {tree, "t", many, api.ErrArg}, {tree, "t", many[:64], nil}, {tree, "t", []api.Key{k, {Name: "k", Secret: l.Secret}}, api.ErrArg},
	} {
		if b, err := envelope.Seal(c.t, c.kind, c.ring); err != c.want || (b == nil) != (err != nil) {
			t.Errorf("case %d: %v, want %v", i, err, c.want)
		}
	}
}

func TestLimits(t *testing.T) {
	// The envelope's keys have 16 bytes, its kind 1, each seal 8 of keys, 1 of the name and 43 letters.
	most := (api.MaxBytes - 17 - 52) / 4 * 3
	text := func(n int) *node.Tree { return read(t, `"`+strings.Repeat("x", n-2)+`"`) }
	b, err := envelope.Seal(text(most), "t", []api.Key{k})
	if err != nil {
		t.Fatalf("as long as may be: %v", err)
	}
	if tree, trust, err := envelope.Open(b, []api.Key{k}, 1); err != nil || tree == nil || !reflect.DeepEqual(trust, api.Trusted{By: []string{"k"}}) {
		t.Errorf("as long as may be: %v, %v", trust, err)
	}
	if b, err := envelope.Seal(text(most+3), "t", []api.Key{k}); b != nil || err != api.ErrLong {
		t.Errorf("too long: %v", err)
	}
	if b, err := envelope.Add(b, l); b != nil || err != api.ErrLong {
		t.Errorf("too long with a seal more: %v", err)
	}
	other, _ := envelope.Seal(text(most), "t", []api.Key{l})
	if b, err := envelope.Join(b, other); b != nil || err != api.ErrLong {
		t.Errorf("too long together: %v", err)
	}
	var ring []api.Key
	for i := range 64 {
		ring = append(ring, key(fmt.Sprintf("n%02d", i), byte(i)))
	}
	b = seal(t, "1", "t", ring...)
	if got, err := envelope.Add(b, k); got != nil || err != api.ErrLong {
		t.Errorf("too many seals: %v", err)
	}
	if got, err := envelope.Add(b, ring[3]); got != nil || err != api.ErrHave {
		t.Errorf("a seal that is there: %v", err)
	}
	if got, err := envelope.Join(b, seal(t, "1", "t", k)); got != nil || err != api.ErrLong {
		t.Errorf("too many seals together: %v", err)
	}
	if got, err := envelope.Join(b, b); err != nil || !bytes.Equal(got, b) {
		t.Errorf("Join of an envelope and itself: %v", err)
	}
	if _, trust, err := envelope.Open(b, ring, 64); err != nil || len(trust.(api.Trusted).By) != 64 {
		t.Errorf("Open: %v, %v", trust, err)
	}
}

func TestRead(t *testing.T) {
	letter, err := envelope.Read(seal(t, `{"a":1}`, "t", k, l))
	if err != nil || !reflect.DeepEqual(letter, api.Letter{Kind: "t", Payload: []byte(`{"a":1}`), Names: []string{"k", "l"}}) {
		t.Errorf("Read: %v, %v", letter, err)
	}
	good := written("t", "1", k, l)
	at := func(p string) error { return api.Trail{Err: api.ErrEnvelope, Pointer: p} }
	s := letters(k, "t", "1")
	one := `{"name":"k","seal":"` + s + `"}`
	env := func(kind, payload, seals string) string {
		return `{"kind":` + kind + `,"payload":` + payload + `,"seals":` + seals + "}"
	}
	long := strings.Repeat("x", 257)
	for b, want := range map[string]error{
		"{}": at(""), "": api.Spot{Err: api.ErrEnd}, good + " ": api.Spot{Err: api.ErrPlain, At: len(good)}, "[]": at(""), "1": at(""), "[[[[1]]]]": api.Spot{Err: api.ErrDepth, At: 4}, `{"kind":"t","payload":"MQ"}`: at(""), env(`"t"`, `"MQ"`, "["+one+"]")[:len(env(`"t"`, `"MQ"`, "["+one+"]"))-1] + `,"x":1}`: at(""), `{"kinds":"t","payload":"MQ","seals":[]}`: at(""),
		env("1", "1", "1"): at("/kind"), env(`""`, "1", "1"): at("/kind"), env(`"`+long+`"`, "1", "1"): at("/kind"), env("null", `"MQ"`, "["+one+"]"): at("/kind"), env(`"t"`, "1", "1"): at("/payload"), env(`"t"`, `""`, "1"): at("/payload"), env(`"t"`, `"M"`, "1"): at("/payload"), env(`"t"`, `"MQ=="`, "1"): at("/payload"), env(`"t"`, `"`+web([]byte("1 "))+`"`, "1"): at("/payload"), env(`"t"`, `"`+web([]byte("1.0"))+`"`, "1"): at("/payload"), env(`"t"`, `"`+web([]byte("x"))+`"`, "1"): at("/payload"), env(`"t"`, `"MR"`, "1"): at("/payload"),
		env(`"t"`, `"MQ"`, "1"): at("/seals"), env(`"t"`, `"MQ"`, "[]"): at("/seals"), env(`"t"`, `"MQ"`, "{}"): at("/seals"), env(`"t"`, `"MQ"`, "["+strings.TrimSuffix(strings.Repeat("1,", 65), ",")+"]"): at("/seals"), env(`"t"`, `"MQ"`, "[1]"): at("/seals/0"), env(`"t"`, `"MQ"`, "["+one+",[]]"): at("/seals/1"), env(`"t"`, `"MQ"`, `[{"name":"k"}]`): at("/seals/0"), env(`"t"`, `"MQ"`, `[{"name":"k","seal":"x","x":1}]`): at("/seals/0"), env(`"t"`, `"MQ"`, `[{"name":1,"seal":1}]`): at("/seals/0/name"), env(`"t"`, `"MQ"`, `[{"name":"","seal":1}]`): at("/seals/0/name"), env(`"t"`, `"MQ"`, `[{"name":"`+long[:65]+`","seal":1}]`): at("/seals/0/name"), env(`"t"`, `"MQ"`, `[{"name":"k","seal":1}]`): at("/seals/0/seal"), env(`"t"`, `"MQ"`, `[{"name":"k","seal":"AA"}]`): at("/seals/0/seal"), env(`"t"`, `"MQ"`, `[{"name":"k","seal":"`+s[:42]+`"}]`): at("/seals/0/seal"), env(`"t"`, `"MQ"`, `[{"name":"k","seal":"`+s+`A"}]`): at("/seals/0/seal"), env(`"t"`, `"MQ"`, `[{"name":"k","seal":"`+s[:42]+`="}]`): at("/seals/0/seal"),
		env(`"t"`, `"MQ"`, "["+one+","+one+"]"): at("/seals/1"), written("t", "1", l, k): at("/seals/1"), env(`"t"`, `"MQ"`, "["+one+`,{"name":"a","seal":1}]`): at("/seals/1"), env(`"t"`, `"MQ"`, "["+one+`,{"name":"","seal":1}]`): at("/seals/1/name"), written("t", "1", key("\uff61", 0), key("😀", 1)): at("/seals/1"),
	} {
		letter, err := envelope.Read([]byte(b))
		if !reflect.DeepEqual(letter, api.Letter{}) || err != want {
			t.Errorf("Read(%.120s): %v, want %v", b, err, want)
		}
		added, err1 := envelope.Add([]byte(b), api.Key{})
		stripped, err2 := envelope.Strip([]byte(b), "x")
		joined, err3 := envelope.Join([]byte(b), nil)
		joined2, err4 := envelope.Join([]byte(good), []byte(b))
		tree, trust, err5 := envelope.Open([]byte(b), []api.Key{k}, 1)
		if added != nil || stripped != nil || joined != nil || joined2 != nil || tree != nil || trust != nil {
			t.Errorf("of %.120s: something beside an error", b)
		}
		for _, err := range []error{err1, err2, err3, err4, err5} {
			if err != want {
				t.Errorf("of %.120s: %v, want %v", b, err, want)
			}
		}
	}
	if _, err := envelope.Read([]byte(written("t", "1", key("😀", 0), key("\uff61", 1)))); err != nil {
		t.Errorf("Read: %v", err)
	}
}

func TestOpen(t *testing.T) {
	b := seal(t, `{"a":[1,{"b":null}]}`, "t", k, l)
	value := read(t, `{"a":[1,{"b":null}]}`)
	wrong := api.Key{Name: "k", Secret: bytes.Repeat([]byte{2}, 16)}
	m := key("m", 5)
	for i, c := range []struct {
		ring []api.Key
		need int
		want api.Trust
	}{
		{[]api.Key{k}, 1, api.Trusted{By: []string{"k"}}}, {[]api.Key{k}, 2, api.Weak{By: []string{"k"}, Need: 2}}, {nil, 1, api.Weak{Need: 1}}, {[]api.Key{wrong, l}, 1, api.False{By: []string{"l"}, Not: []string{"k"}}}, {[]api.Key{l, k}, 2, api.Trusted{By: []string{"k", "l"}}}, {[]api.Key{m}, 1, api.Weak{Need: 1}}, {[]api.Key{m, l}, 1, api.Trusted{By: []string{"l"}}}, {[]api.Key{wrong}, 64, api.False{Not: []string{"k"}}}, {[]api.Key{l, k}, 64, api.Weak{By: []string{"k", "l"}, Need: 64}}, {[]api.Key{{Name: "l", Secret: k.Secret}, wrong}, 1, api.False{Not: []string{"k", "l"}}},
	} {
		tree, trust, err := envelope.Open(b, c.ring, c.need)
		_, trusted := c.want.(api.Trusted)
		if err != nil || !alike(trust, c.want) || trusted && !tree.Same(value) || !trusted && tree != nil {
			t.Errorf("case %d: %#v, %v", i, trust, err)
		}
	}
	for i, c := range []struct {
		b    []byte
		ring []api.Key
		need int
		want error
	}{{b, nil, 0, api.ErrArg}, {b, nil, 65, api.ErrArg}, {b, nil, -1, api.ErrArg}, {b, []api.Key{k, k}, 1, api.ErrArg}, {[]byte("x"), []api.Key{{}}, 1, api.ErrArg}, {[]byte("x"), nil, math.MaxInt, api.ErrArg}, {[]byte("{}"), nil, 1, api.Trail{Err: api.ErrEnvelope}}} {
		if tree, trust, err := envelope.Open(c.b, c.ring, c.need); tree != nil || trust != nil || err != c.want {
			t.Errorf("case %d: %v", i, err)
		}
	}
}

// alike tells whether two are of one type, and have the same names and need.
func alike(a, b api.Trust) bool {
	if reflect.TypeOf(a) != reflect.TypeOf(b) || !slices.Equal(a.Good(), b.Good()) {
		return false
	}
	x, _ := a.(api.False)
	y, _ := b.(api.False)
	v, _ := a.(api.Weak)
	w, _ := b.(api.Weak)
	return slices.Equal(x.Not, y.Not) && v.Need == w.Need
}

func TestAddStripJoin(t *testing.T) {
	byK, byL, both := seal(t, "[1]", "t", k), seal(t, "[1]", "t", l), seal(t, "[1]", "t", k, l)
	if b, err := envelope.Add(byL, k); err != nil || !bytes.Equal(b, both) {
		t.Errorf("Add: %s, %v", b, err)
	}
	if b, err := envelope.Strip(both, "l"); err != nil || !bytes.Equal(b, byK) {
		t.Errorf("Strip: %s, %v", b, err)
	}
	for _, c := range [][2][]byte{{byK, byL}, {byL, byK}, {both, byK}, {byL, both}, {both, both}} {
		if b, err := envelope.Join(c[0], c[1]); err != nil || !bytes.Equal(b, both) {
			t.Errorf("Join: %s, %v", b, err)
		}
	}
	other := seal(t, "[1]", "t", api.Key{Name: "l", Secret: k.Secret})
	for i, c := range []struct {
		f    func() ([]byte, error)
		want error
	}{
		{func() ([]byte, error) { return envelope.Add(both, k) }, api.ErrHave}, {func() ([]byte, error) { return envelope.Add(both, api.Key{Name: "k"}) }, api.ErrArg}, {func() ([]byte, error) { return envelope.Add(both, api.Key{Name: "k", Secret: make([]byte, 20)}) }, api.ErrHave}, {func() ([]byte, error) { return envelope.Strip(both, "x") }, api.ErrNone}, {func() ([]byte, error) { return envelope.Strip(byL, "l") }, api.ErrArg}, {func() ([]byte, error) { return envelope.Strip(byL, "k") }, api.ErrNone}, {func() ([]byte, error) { return envelope.Strip(byL, "\xFF") }, api.ErrNone}, {func() ([]byte, error) { return envelope.Join(byK, seal(t, "[2]", "t", l)) }, api.ErrUnlike}, {func() ([]byte, error) { return envelope.Join(byK, seal(t, "[1]", "u", l)) }, api.ErrUnlike}, {func() ([]byte, error) { return envelope.Join(both, other) }, api.ErrHave}, {func() ([]byte, error) { return envelope.Join(other, both) }, api.ErrHave}, {func() ([]byte, error) { return envelope.Join(seal(t, "[2]", "t", k), other) }, api.ErrUnlike},
	} {
		if b, err := c.f(); b != nil || err != c.want {
			t.Errorf("case %d: %v, want %v", i, err, c.want)
		}
	}
}

// TestInAnyOrder: P24.7 and P24.9.
func TestInAnyOrder(t *testing.T) {
	r := rand.New(rand.NewSource(1))
	names := []string{"a", "b", "é", "\uff61", "😀", "zz", "a b", "\"", "\n"}
	for range 300 {
		r.Shuffle(len(names), func(i, j int) { names[i], names[j] = names[j], names[i] })
		var ring []api.Key
		for i, name := range names[:1+r.Intn(len(names))] {
			ring = append(ring, key(name, byte(i)))
		}
		value := []string{"1", `{"a":[null]}`, `"x"`}[r.Intn(3)]
		all := seal(t, value, "t", ring...)
		b := seal(t, value, "t", ring[0])
		for _, k := range ring[1:] {
			next, err := envelope.Add(b, k)
			if err != nil {
				t.Fatal(err)
			}
			if back, err := envelope.Strip(next, k.Name); err != nil || !bytes.Equal(back, b) {
				t.Fatalf("Strip of Add: %v", err)
			}
			b = next
		}
		if !bytes.Equal(b, all) {
			t.Fatalf("%s, want %s", b, all)
		}
		some := ring[:r.Intn(len(ring)+1)]
		var good []string
		for _, k := range some {
			good = append(good, k.Name)
		}
		slices.SortFunc(good, func(a, b string) int {
			return slices.Compare(utf16.Encode([]rune(a)), utf16.Encode([]rune(b)))
		})
		tree, trust, err := envelope.Open(all, some, max(1, len(some)))
		if err != nil || !slices.Equal(trust.Good(), good) || (tree == nil) != (len(some) == 0) {
			t.Fatalf("Open: %#v, %v", trust, err)
		}
	}
}

// TestNothingCanBeTurned: with one byte changed nothing comes out, or it is no envelope.
func TestNothingCanBeTurned(t *testing.T) {
	b := seal(t, `{"a":1}`, "t", k)
	r := rand.New(rand.NewSource(2))
	for i := range b {
		c := bytes.Clone(b)
		c[i] ^= 1 << r.Intn(7)
		tree, trust, err := envelope.Open(c, []api.Key{k}, 1)
		if err == nil && (tree != nil || len(trust.Good()) > 0) {
			t.Fatalf("%s is trusted", c)
		}
	}
	other := strings.Replace(string(b), "eyJhIjoxfQ", "eyJhIjoyfQ", 1)
	if _, trust, err := envelope.Open([]byte(other), []api.Key{k}, 1); err != nil || !alike(trust, api.False{Not: []string{"k"}}) {
		t.Errorf("another payload: %#v, %v", trust, err)
	}
	other = strings.Replace(string(b), `"kind":"t"`, `"kind":"u"`, 1)
	if _, trust, err := envelope.Open([]byte(other), []api.Key{k}, 1); err != nil || !alike(trust, api.False{Not: []string{"k"}}) {
		t.Errorf("another kind: %#v, %v", trust, err)
	}
}

func TestMemory(t *testing.T) {
	b := seal(t, `{"a":1}`, "t", k)
	letter, _ := envelope.Read(b)
	letter.Payload[0], letter.Names[0] = 'x', "x"
	if again, err := envelope.Read(b); err != nil || string(again.Payload) != `{"a":1}` || again.Names[0] != "k" {
		t.Errorf("a letter is shared: %v, %v", again, err)
	}
	if got, _ := envelope.Join(b, b); &got[0] == &b[0] {
		t.Error("an envelope is shared")
	}
}
