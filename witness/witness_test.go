package witness_test

import (
	"bytes"
	"encoding/hex"
	"fmt"
	"math"
	"math/rand"
	"reflect"
	"slices"
	"strings"
	"testing"

	"affidavit/api"
	"affidavit/book"
	"affidavit/canon"
	"affidavit/envelope"
	"affidavit/node"
	"affidavit/parse"
	"affidavit/witness"
)

func read(t testing.TB, s string) *node.Tree {
	t.Helper()
	tree, err := parse.Read([]byte(s), api.MaxDepth)
	if err != nil {
		t.Fatalf("%.80s: %v", s, err)
	}
	return tree
}

func key(name string, c byte) api.Key {
	return api.Key{Name: name, Secret: bytes.Repeat([]byte{c}, 16)}
}

var k, w = key("k", 0), key("w", 1)

// log is a book with so many entries.
func log(t testing.TB, n int) *book.Book {
	t.Helper()
	b := book.New()
	for i := range n {
		if _, err := b.Append([]byte(fmt.Sprint(i))); err != nil {
			t.Fatal(err)
		}
	}
	return b
}

// head is the head of the first n entries at the time n.
func head(b *book.Book, n int) api.Head {
	r, _ := b.Root(n)
	return api.Head{Origin: "o", Size: n, Root: r, Time: n}
}

func sign(t testing.TB, h api.Head, ring ...api.Key) []byte {
	t.Helper()
	b, err := witness.Sign(h, ring)
	if err != nil {
		t.Fatalf("Sign: %v", err)
	}
	return b
}

func grew(b *book.Book, m, n int) []api.Digest {
	p, _ := b.Grew(m, n)
	return p
}

func TestTellAndRead(t *testing.T) {
	b := log(t, 3)
	h := head(b, 2)
	tree, err := witness.Tell(h)
	form, _ := canon.Bytes(tree)
	if want := fmt.Sprintf(`{"origin":"o","root":"%x","size":2,"time":2}`, h.Root); err != nil || string(form) != want {
		t.Errorf("Tell: %s, %v", form, err)
	}
	if back, err := witness.Read(tree); err != nil || back != h {
		t.Errorf("Read: %v, %v", back, err)
	}
	long := strings.Repeat("o", 256)
	for i, c := range []struct {
		h    api.Head
		want error
	}{
		{api.Head{Origin: "o", Root: book.Empty()}, nil}, {api.Head{Origin: "o"}, api.ErrArg}, {api.Head{Origin: "", Root: book.Empty()}, api.ErrArg}, {api.Head{Origin: long, Root: book.Empty()}, nil}, {api.Head{Origin: long + "o", Root: book.Empty()}, api.ErrArg}, {api.Head{Origin: "\xFF", Root: book.Empty()}, api.ErrArg}, {api.Head{Origin: "o", Size: 1}, nil}, {api.Head{Origin: "o", Size: -1}, api.ErrArg}, {api.Head{Origin: "o", Size: api.MaxTime, Time: api.MaxTime}, nil}, {api.Head{Origin: "o", Size: api.MaxTime + 1}, api.ErrArg}, {api.Head{Origin: "o", Size: 1, Time: -1}, api.ErrArg}, {api.Head{Origin: "o", Size: 1, Time: math.MaxInt}, api.ErrArg}, {api.Head{Origin: "é", Size: 5, Time: 0, Root: book.Empty()}, nil},
	} {
		tree, err := witness.Tell(c.h)
		b, err2 := witness.Sign(c.h, []api.Key{k})
		if err != c.want || (tree == nil) != (err != nil) || err2 != c.want || (b == nil) != (err != nil) {
			t.Errorf("case %d: %v, %v, want %v", i, err, err2, c.want)
		}
		if err != nil {
			continue
		}
		if back, err := witness.Read(tree); err != nil || back != c.h {
			t.Errorf("case %d: Read: %v, %v", i, back, err)
		}
	}
	for _, ring := range [][]api.Key{nil, {k, k}, {{}}} {
		if b, err := witness.Sign(h, ring); b != nil || err != api.ErrArg {
			t.Errorf("Sign by %v: %v", ring, err)
		}
	}
}

// broken are values that are no heads, with the pointer of what is wrong.
func broken() map[string]string {
	d := strings.Repeat("0", 64)
	e := book.Empty()
	empty := hex.EncodeToString(e[:])
	h := func(origin, root, size, time string) string {
		return `{"origin":` + origin + `,"root":` + root + `,"size":` + size + `,"time":` + time + "}"
	}
	return map[string]string{
		"{}": "", "1": "", "[]": "", `{"origin":"o","root":"00","size":1,"time":1}`: "/root", h(`"o"`, `"`+d+`"`, "1", "1")[:len(h(`"o"`, `"`+d+`"`, "1", "1"))-1] + `,"x":1}`: "", `{"origin":"o","root":"` + d + `","size":1,"times":1}`: "", `{"origin":"o","root":"` + d + `","size":1}`: "", h("1", "1", "-1", "-1"): "/origin", h(`""`, "1", "1", "1"): "/origin", h(`"`+strings.Repeat("x", 257)+`"`, "1", "1", "1"): "/origin", h(`"o"`, "1", `"x"`, "1"): "/root", h(`"o"`, `"`+strings.ToUpper(strings.Repeat("a", 64))+`"`, "1", "1"): "/root", h(`"o"`, `"`+d+`0"`, "1", "1"): "/root", h(`"o"`, `"`+d[:62]+`"`, "1", "1"): "/root", h(`"o"`, `"`+d+`"`, "0", "1"): "/root", h(`"o"`, `"`+d+`"`, "0", `"x"`): "/root", h(`"o"`, `"`+d+`"`, "-1", "1"): "/size", h(`"o"`, `"`+d+`"`, "1.5", "1"): "/size", h(`"o"`, `"`+d+`"`, "9007199254740992", "1"): "/size", h(`"o"`, `"`+d+`"`, `"0"`, "1"): "/size", h(`"o"`, `"`+empty+`"`, "0", "-1"): "/time", h(`"o"`, `"`+empty+`"`, "0", "null"): "/time", h(`"o"`, `"`+d+`"`, "1", "1e300"): "/time",
	}
}

func TestReadErrors(t *testing.T) {
	wit, _ := witness.New(w, []api.Key{k})
	good := sign(t, head(log(t, 1), 1), k)
	for s, p := range broken() {
		want := api.Trail{Err: api.ErrHead, Pointer: p}
		h, err := witness.Read(read(t, s))
		if h != (api.Head{}) || err != want {
			t.Errorf("Read(%s): %v, want %v", s, err, want)
		}
		b, err := envelope.Seal(read(t, s), "head", []api.Key{k})
		if err != nil {
			t.Fatal(err)
		}
		checkErrors(t, wit, good, b, want)
	}
	if h, err := witness.Read(nil); h != (api.Head{}) || err != api.ErrNil {
		t.Errorf("Read of nil: %v", err)
	}
	other, _ := envelope.Seal(read(t, "{}"), "heads", []api.Key{k})
	checkErrors(t, wit, good, other, api.ErrKind)
	checkErrors(t, wit, good, []byte("{}"), api.Trail{Err: api.ErrEnvelope})
	checkErrors(t, wit, good, nil, api.Spot{Err: api.ErrEnd})
}

// checkErrors: all calls that are handed a head's bytes answer the same error.
func checkErrors(t *testing.T, wit *witness.Witness, good, b []byte, want error) {
	t.Helper()
	h, trust, err1 := witness.Check(b, []api.Key{k}, 1)
	sealed, f, err2 := wit.See(b, nil)
	g, err3 := witness.Judge(b, nil, []api.Key{k})
	g2, err4 := witness.Judge(good, b, []api.Key{k})
	if h != (api.Head{}) || trust != nil || sealed != nil || f != nil || g != nil || g2 != nil || err1 != want || err2 != want || err3 != want || err4 != want {
		t.Errorf("of %.80s: %v, %v, %v, %v, want %v", b, err1, err2, err3, err4, want)
	}
}

func TestCheck(t *testing.T) {
	h := head(log(t, 3), 3)
	b := sign(t, h, k, w)
	for i, c := range []struct {
		ring  []api.Key
		need  int
		head  api.Head
		trust api.Trust
		err   error
	}{
		{[]api.Key{k}, 1, h, api.Trusted{By: []string{"k"}}, nil}, {[]api.Key{k}, 2, api.Head{}, api.Weak{By: []string{"k"}, Need: 2}, nil}, {[]api.Key{w, k}, 2, h, api.Trusted{By: []string{"k", "w"}}, nil}, {[]api.Key{w, key("k", 9)}, 1, api.Head{}, api.False{By: []string{"w"}, Not: []string{"k"}}, nil}, {nil, 1, api.Head{}, api.Weak{Need: 1}, nil}, {[]api.Key{k, k}, 1, api.Head{}, nil, api.ErrArg}, {nil, 0, api.Head{}, nil, api.ErrArg}, {nil, 65, api.Head{}, nil, api.ErrArg},
	} {
		got, trust, err := witness.Check(b, c.ring, c.need)
		if got != c.head || err != c.err || reflect.TypeOf(trust) != reflect.TypeOf(c.trust) || trust != nil && !slices.Equal(trust.Good(), c.trust.Good()) {
			t.Errorf("case %d: %v, %#v, %v", i, got, trust, err)
		}
	}
	if _, _, err := witness.Check([]byte("x"), nil, 0); err != api.ErrArg {
		t.Errorf("Check: %v", err)
	}
}

func TestNew(t *testing.T) {
	for i, c := range []struct {
		own  api.Key
		logs []api.Key
		want error
	}{{w, nil, api.ErrArg}, {w, []api.Key{w}, api.ErrArg}, {w, []api.Key{k}, nil}, {api.Key{}, []api.Key{k}, api.ErrArg}, {w, []api.Key{k, k}, api.ErrArg}, {w, []api.Key{k, {Name: "w", Secret: k.Secret}}, api.ErrArg}, {w, []api.Key{{}}, api.ErrArg}} {
		if got, err := witness.New(c.own, c.logs); err != c.want || (got == nil) != (err != nil) {
			t.Errorf("case %d: %v", i, err)
		}
	}
	var none *witness.Witness
	b, f, err := none.See([]byte("x"), nil)
	h, ok := none.Last("o")
	if b != nil || f != nil || err != api.ErrNil || h != (api.Head{}) || ok || none.Origins() != nil || none.Forget("o") {
		t.Error("calls of nil")
	}
}

func TestSeeExamples(t *testing.T) {
	b := log(t, 4)
	wit, _ := witness.New(w, []api.Key{k})
	see := func(what string, bytes []byte, proof []api.Digest, want api.Finding, err error) []byte {
		t.Helper()
		before, had := wit.Last("o")
		got, f, e := wit.See(bytes, proof)
		_, taken := want.(api.Taken)
		if f != want || e != err || (got != nil) != taken {
			t.Errorf("%s: %#v, %v, want %#v", what, f, e, want)
		}
		if after, has := wit.Last("o"); !taken && (after != before || has != had) {
			t.Errorf("%s has changed something", what)
		}
		if taken {
			if _, trust, err := envelope.Open(got, []api.Key{k, w}, 2); err != nil || !reflect.DeepEqual(trust, api.Trusted{By: []string{"k", "w"}}) {
				t.Errorf("%s: %#v, %v", what, trust, err)
			}
		}
		return got
	}
	see("h(1)", sign(t, head(b, 1), k), nil, api.Fresh{Origin: "o", Size: 1}, nil)
	if h, ok := wit.Last("o"); h != head(b, 1) || !ok || !slices.Equal(wit.Origins(), []string{"o"}) {
		t.Errorf("Last: %v", h)
	}
	sealed := see("h(3)", sign(t, head(b, 3), k), grew(b, 1, 3), api.Grown{Origin: "o", From: 1, To: 3}, nil)
	if again := see("h(3) again", sealed, []api.Digest{{}}, api.Again{Origin: "o", Size: 3}, nil); !bytes.Equal(again, sealed) {
		t.Error("what is sealed is sealed again")
	}
	see("h(2)", sign(t, head(b, 2), k), nil, api.Stale{Origin: "o", Size: 2, Have: 3}, nil)
	other := head(b, 3)
	other.Root = head(b, 2).Root
	see("another root", sign(t, other, k), nil, api.Split{Origin: "o", Size: 3, Root: other.Root, Have: head(b, 3).Root}, nil)
	see("h(4)", sign(t, head(b, 4), k), nil, api.Unproved{Origin: "o", Err: api.Spot{Err: api.ErrProof, At: 3}}, nil)
	wrong := grew(b, 3, 4)
	wrong[0][0] ^= 1
	see("h(4)", sign(t, head(b, 4), k), wrong, api.Unproved{Origin: "o", Err: api.ErrRoot}, nil)
	see("strange", sign(t, head(b, 4), key("x", 2)), nil, nil, api.ErrStrange)
	see("false", sign(t, head(b, 4), key("k", 2)), nil, nil, api.ErrStrange)
	see("sealed by another w", sign(t, head(b, 4), k, key("w", 2)), grew(b, 3, 4), nil, api.ErrHave)
	see("sealed by another w", sign(t, head(b, 2), k, key("w", 2)), nil, nil, api.ErrHave)
	if !wit.Forget("o") || wit.Forget("o") || len(wit.Origins()) != 0 {
		t.Error("Forget")
	}
	see("h(2)", sign(t, head(b, 2), k, key("x", 5)), nil, api.Fresh{Origin: "o", Size: 2}, nil)
	later := head(b, 2)
	later.Time = 9
	see("later", sign(t, later, k), nil, api.Again{Origin: "o", Size: 2}, nil)
	if h, _ := wit.Last("o"); h != later {
		t.Errorf("Last: %v", h)
	}
	see("earlier", sign(t, head(b, 2), k), nil, api.Again{Origin: "o", Size: 2}, nil)
	if h, _ := wit.Last("o"); h != later {
		t.Errorf("Last: %v", h)
	}
}

func TestSeeManySeals(t *testing.T) {
	ring := []api.Key{k}
	for i := range 63 {
		ring = append(ring, key(fmt.Sprint("n", i), 3))
	}
	b := log(t, 2)
	wit, _ := witness.New(w, []api.Key{k})
	if got, f, err := wit.See(sign(t, head(b, 1), ring...), nil); got != nil || f != nil || err != api.ErrLong {
		t.Errorf("as many seals as may be: %v", err)
	}
	if got, f, err := wit.See(sign(t, head(b, 1), append(ring[:63], w)...), nil); got == nil || f != (api.Fresh{Origin: "o", Size: 1}) || err != nil {
		t.Errorf("as many seals, its own among them: %v", err)
	}
	two, _ := witness.New(w, []api.Key{k, key("l", 4)})
	if got, _, err := two.See(sign(t, head(b, 1), key("l", 4)), nil); got == nil || err != nil {
		t.Errorf("by another log: %v", err)
	}
	if got, _, err := two.See(sign(t, head(b, 2), k, key("l", 5)), grew(b, 1, 2)); got != nil || err != api.ErrStrange {
		t.Errorf("by one log, and falsely by another: %v", err)
	}
}

func TestJudge(t *testing.T) {
	b := log(t, 4)
	other := head(b, 3)
	other.Root = head(b, 1).Root
	elsewhere := head(b, 3)
	elsewhere.Origin = "p"
	empty := api.Head{Origin: "o", Root: book.Empty(), Time: 5}
	logs := []api.Key{k}
	for i, c := range []struct {
		a, b []byte
		logs []api.Key
		want api.Finding
		err  error
	}{
		{sign(t, head(b, 3), k), sign(t, other, k), logs, api.Split{Origin: "o", Size: 3, Root: other.Root, Have: head(b, 3).Root}, nil}, {sign(t, head(b, 1), k), sign(t, head(b, 3), k), logs, api.Unproved{Origin: "o", Err: api.Spot{Err: api.ErrProof, At: 2}}, nil}, {sign(t, head(b, 3), k), sign(t, head(b, 1), k), logs, api.Stale{Origin: "o", Size: 1, Have: 3}, nil}, {sign(t, head(b, 3), k), sign(t, head(b, 3), k, w), logs, api.Again{Origin: "o", Size: 3}, nil}, {sign(t, empty, k), sign(t, head(b, 3), k), logs, api.Grown{Origin: "o", From: 0, To: 3}, nil}, {sign(t, head(b, 3), k), sign(t, elsewhere, k), logs, nil, api.ErrArg}, {sign(t, head(b, 3), w), sign(t, head(b, 3), k), logs, nil, api.ErrStrange}, {sign(t, head(b, 3), k), sign(t, elsewhere, w), logs, nil, api.ErrStrange}, {[]byte("x"), nil, []api.Key{k, k}, nil, api.ErrArg}, {sign(t, head(b, 3), k), sign(t, head(b, 3), k), nil, nil, api.ErrStrange},
	} {
		if f, err := witness.Judge(c.a, c.b, c.logs); f != c.want || err != c.err {
			t.Errorf("case %d: %#v, %v", i, f, err)
		}
	}
}

// TestNeverAtOdds: P30.7 to P30.9.
func TestNeverAtOdds(t *testing.T) {
	r := rand.New(rand.NewSource(1))
	names := []string{"", "a", "\uff61", "😀", "b"}
	for range 60 {
		wit, _ := witness.New(w, []api.Key{k})
		other, _ := witness.New(key("v", 7), []api.Key{k})
		b := log(t, 12)
		fork := book.New()
		fork.Append([]byte("another"))
		for i := range 11 {
			fork.Append([]byte(fmt.Sprint(i)))
		}
		last := map[string]api.Head{}
		for range 60 {
			from := b
			if r.Intn(4) == 0 {
				from = fork
			}
			h := head(from, r.Intn(13))
			h.Origin, h.Time = "o"+names[r.Intn(len(names))], r.Intn(5)
			l, had := last[h.Origin]
			proof := grew(from, min(l.Size, h.Size), h.Size)
			if r.Intn(4) == 0 {
				proof = grew(from, r.Intn(h.Size+1), h.Size)
			}
			got, f, err := wit.See(sign(t, h, k), proof)
			_, f2, err2 := other.See(sign(t, h, k, key("more", 9)), proof)
			if err != nil || err2 != nil || f != f2 || f.About() != h.Origin {
				t.Fatalf("See(%v): %#v, %#v, %v", h, f, f2, err)
			}
			taken, isTaken := f.(api.Taken)
			if isTaken != (got != nil) {
				t.Fatalf("See(%v): %#v", h, f)
			}
			if isTaken {
				if had && (h.Size < l.Size || h.Size == l.Size && h.Root != l.Root || book.CheckGrowth(l.Size, l.Root, h.Size, h.Root, proof) != nil && h.Size > l.Size || taken.Since() != l.Size) || !had && taken.Since() != 0 {
					t.Fatalf("See(%v) behind %v: %#v", h, l, f)
				}
				if !had || h.Size > l.Size || h.Time > l.Time {
					last[h.Origin] = h
				}
			}
			if is, ok := wit.Last(h.Origin); is != last[h.Origin] || ok != (had || isTaken) {
				t.Fatalf("Last: %v, want %v", is, last[h.Origin])
			}
		}
		origins := wit.Origins()
		if len(origins) != len(last) || !slices.IsSortedFunc(origins, func(a, b string) int { return slices.Index(rising(names), a[1:]) - slices.Index(rising(names), b[1:]) }) {
			t.Fatalf("Origins: %q", origins)
		}
	}
}

// rising are the names in unit order.
func rising([]string) []string { return []string{"", "a", "b", "😀", "\uff61"} }

func TestMemory(t *testing.T) {
	logs := []api.Key{key("k", 0)}
	own := key("w", 1)
	wit, _ := witness.New(own, logs)
	logs[0].Secret[0], own.Secret[0] = 9, 9
	b := sign(t, head(log(t, 1), 1), k)
	got, _, err := wit.See(b, nil)
	if err != nil {
		t.Fatalf("keys are shared: %v", err)
	}
	again, _, _ := wit.See(got, nil)
	again[0] = 'x'
	if got[0] != '{' {
		t.Error("bytes are shared")
	}
}
