package store_test

import (
	"bytes"
	"crypto/sha256"
	"fmt"
	"math/rand"
	"slices"
	"strings"
	"sync"
	"sync/atomic"
	"testing"
	"unicode/utf16"

	"affidavit/api"
	"affidavit/canon"
	"affidavit/node"
	"affidavit/parse"
	"affidavit/store"
)

var zero api.Digest

func read(t testing.TB, s string) *node.Tree {
	t.Helper()
	tree, err := parse.Read([]byte(s), api.MaxDepth)
	if err != nil {
		t.Fatalf("%.80s: %v", s, err)
	}
	return tree
}

func form(tree *node.Tree) string {
	b, _ := canon.Bytes(tree)
	return string(b)
}

// digest is that of a document in its one form.
func digest(s string) api.Digest { return sha256.Sum256([]byte(s)) }

func put(t testing.TB, s *store.Store, doc string) api.Digest {
	t.Helper()
	d, err := s.Put(read(t, doc))
	if err != nil {
		t.Fatalf("Put(%.80s): %v", doc, err)
	}
	return d
}

func TestExamples(t *testing.T) {
	s := store.New()
	if s.Len() != 0 || s.Held() != 0 || s.Changes() != 0 || len(s.Names()) != 0 {
		t.Error("a new store")
	}
	d := put(t, s, `{"b": 1, "a": 2}`)
	if e := put(t, s, `{"a": 2, "b": 1.0}`); d != digest(`{"a":2,"b":1}`) || e != d || s.Len() != 1 || s.Held() != 13 || s.Changes() != 1 {
		t.Errorf("Put: Len %d, Held %d, Changes %d", s.Len(), s.Held(), s.Changes())
	}
	b, err := s.Bytes(d)
	tree, err2 := s.Get(d)
	if string(b) != `{"a":2,"b":1}` || err != nil || form(tree) != string(b) || err2 != nil {
		t.Errorf("Bytes: %s, %v, %v", b, err, err2)
	}
	for _, other := range []api.Digest{zero, digest("1"), {1}} {
		tree, err := s.Get(other)
		b, err2 := s.Bytes(other)
		if tree != nil || err != api.ErrNone || b != nil || err2 != api.ErrNone {
			t.Errorf("Get of nothing: %v, %v", err, err2)
		}
	}
	null := digest("null")
	set := func(name string, was, to api.Digest, want error) {
		t.Helper()
		if err := s.Set(name, was, to); err != want {
			t.Errorf("Set(%s): %v, want %v", name, err, want)
		}
	}
	set("x", zero, null, api.ErrNone)
	put(t, s, "null")
	set("x", zero, null, nil)
	set("x", zero, null, api.ErrStale)
	set("x", null, null, nil)
	if l := s.Names(); !slices.Equal(l, []api.Named{{Name: "x", Digest: null}}) {
		t.Errorf("Names: %v", l)
	}
	if got, err := s.Name("x"); got != null || err != nil {
		t.Errorf("Name: %v", err)
	}
	if gone, err := s.Sweep(nil); err != nil || !slices.Equal(gone, []api.Digest{d}) || s.Len() != 1 || s.Held() != 4 || s.Changes() != 4 {
		t.Errorf("Sweep: %x, %v, Changes %d", gone, err, s.Changes())
	}
	set("\xFF", zero, zero, api.ErrText)
	set("\xFF", null, d, api.ErrText)
	set("y", zero, zero, nil)
	set("y", null, d, api.ErrStale)
	set("x", null, d, api.ErrNone)
	set("x", null, zero, nil)
	set("x", null, zero, api.ErrStale)
	if got, err := s.Name("x"); got != zero || err != api.ErrNone || s.Changes() != 5 {
		t.Errorf("Name: %v, Changes %d", err, s.Changes())
	}
	set("", zero, null, nil)
	if gone, err := s.Sweep([]api.Digest{null}); len(gone) != 0 || err != nil || s.Changes() != 6 {
		t.Errorf("Sweep of nothing: %v, Changes %d", err, s.Changes())
	}
}

func TestSetChangesDigest(t *testing.T) {
	s := store.New()
	one, two := put(t, s, "1"), put(t, s, "2")
	if s.Set("a", zero, one) != nil || s.Set("a", one, two) != nil || s.Set("a", one, two) != api.ErrStale || s.Changes() != 4 {
		t.Errorf("Set: Changes %d", s.Changes())
	}
	if d, err := s.Name("a"); d != two || err != nil {
		t.Errorf("Name: %v", err)
	}
	if gone, _ := s.Sweep(nil); !slices.Equal(gone, []api.Digest{one}) {
		t.Errorf("Sweep: %x", gone)
	}
}

func TestNil(t *testing.T) {
	var none *store.Store
	s := store.New()
	tree := read(t, "1")
	_, err1 := none.Put(tree)
	_, err2 := s.Put(nil)
	_, err3 := none.Get(zero)
	_, err4 := none.Bytes(zero)
	_, err5 := none.Name("\xFF")
	_, err6 := none.Sweep(nil)
	_, err7 := none.Load(nil, 0, 0)
	for i, err := range []error{err1, err2, err3, err4, err5, err6, err7, none.Set("\xFF", zero, zero)} {
		if err != api.ErrNil {
			t.Errorf("call %d: %v", i, err)
		}
	}
	for range none.All() {
		t.Error("All of nil")
	}
	if none.Len() != 0 || none.Held() != 0 || none.Names() != nil || none.Changes() != 0 || none.Copy() != nil || none.Save() != nil {
		t.Error("calls of nil")
	}
}

func TestAll(t *testing.T) {
	s := store.New()
	var want []api.Digest
	for i := range 50 {
		want = append(want, put(t, s, fmt.Sprint(i)))
	}
	slices.SortFunc(want, func(a, b api.Digest) int { return bytes.Compare(a[:], b[:]) })
	all, keep := s.All(), want[25:]
	for range 2 {
		var got []api.Digest
		for d, tree := range all {
			if digest(form(tree)) != d {
				t.Fatalf("All: %s", form(tree))
			}
			got = append(got, d)
			if len(got) == 1 { // what is changed meanwhile is not seen
				s.Sweep(keep)
			}
		}
		if !slices.Equal(got, want) {
			t.Fatalf("All: %d", len(got))
		}
		want = keep
	}
	n := 0
	for range all {
		if n++; n == 3 {
			break
		}
	}
	if n != 3 || s.Len() != 25 {
		t.Errorf("left behind %d of %d", n, s.Len())
	}
}

func TestLimits(t *testing.T) {
	s := store.New()
	var docs [][]byte
	for i := range api.MaxDocs {
		docs = append(docs, []byte(fmt.Sprint(i)))
	}
	if l, err := s.Load(docs, 1, 4); err != nil || len(l) != api.MaxDocs || s.Len() != api.MaxDocs {
		t.Fatalf("Load: %v", err)
	}
	if d, err := s.Put(read(t, `"x"`)); d != zero || err != api.ErrFull {
		t.Errorf("one document too many: %v", err)
	}
	if d, err := s.Put(read(t, "7.0")); d != digest("7") || err != nil {
		t.Errorf("one that is there: %v", err)
	}
	long := store.New()
	for i := range 8 {
		put(t, long, fmt.Sprintf(`"%d%s"`, i, strings.Repeat("x", api.MaxBytes-6)))
	}
	if long.Held() != api.MaxHeld-24 {
		t.Fatalf("Held: %d", long.Held())
	}
	put(t, long, `"`+strings.Repeat("y", 21)+`"`)
	if _, err := long.Put(read(t, "12")); err != api.ErrFull || long.Held() != api.MaxHeld-1 {
		t.Errorf("one byte too many: %v", err)
	}
	put(t, long, "1")
	one := digest("1")
	for i := range api.MaxNames {
		if err := s.Set(fmt.Sprint("n", i), zero, one); err != nil {
			t.Fatalf("Set: %v", err)
		}
	}
	if s.Set("more", zero, one) != api.ErrFull || s.Set("more", zero, zero) != nil || s.Set("more", one, one) != api.ErrStale || s.Set("more", zero, digest("x")) != api.ErrNone || s.Set("n5", one, digest("2")) != nil || s.Set("n6", one, zero) != nil || s.Set("more", zero, one) != nil || len(s.Names()) != api.MaxNames {
		t.Error("names at the limit")
	}
}

func TestNames(t *testing.T) {
	s := store.New()
	d := put(t, s, "1")
	names := []string{"", "a", "é", "\uff61", "😀", "b", "ab", "\n"}
	for _, n := range names {
		s.Set(n, zero, d)
	}
	slices.SortFunc(names, func(a, b string) int { return slices.Compare(utf16.Encode([]rune(a)), utf16.Encode([]rune(b))) })
	for i, n := range s.Names() {
		if n != (api.Named{Name: names[i], Digest: d}) {
			t.Errorf("Names: %v at %d", n, i)
		}
	}
}

func TestLoad(t *testing.T) {
	s := store.New()
	l, err := s.Load([][]byte{[]byte("[1]"), []byte("[1 ]"), []byte("["), []byte("[[1]]")}, 2, 2)
	want := []api.Loaded{{Digest: digest("[1]")}, {Digest: digest("[1]")}, {Err: api.Spot{Err: api.ErrEnd, At: 1}}, {Err: api.Spot{Err: api.ErrDepth, At: 2}}}
	if err != nil || !slices.Equal(l, want) || s.Changes() != 1 {
		t.Errorf("Load: %v, %v", l, err)
	}
	for i, c := range []struct {
		docs           [][]byte
		depth, workers int
		want           error
	}{{nil, 9, 0, api.ErrArg}, {nil, 0, 1, api.ErrArg}, {nil, 9, 65, api.ErrArg}, {nil, 513, 1, api.ErrArg}, {make([][]byte, api.MaxSteps+1), 0, 1, api.ErrArg}, {make([][]byte, api.MaxSteps+1), 1, 1, api.ErrLong}, {nil, 512, 64, nil}, {nil, 1, 1, nil}} {
		if l, err := s.Load(c.docs, c.depth, c.workers); len(l) != 0 || err != c.want {
			t.Errorf("case %d: %v", i, err)
		}
	}
	if l, err := s.Load(make([][]byte, api.MaxSteps), 1, 8); err != nil || len(l) != api.MaxSteps || l[api.MaxSteps-1].Err != (api.Spot{Err: api.ErrEnd}) {
		t.Errorf("Load of as many as may be: %v", err)
	}
	// As if they had been put one by one.
	r := rand.New(rand.NewSource(1))
	for _, workers := range []int{1, 3, 64} {
		var docs [][]byte
		one, all := store.New(), store.New()
		for range 300 {
			docs = append(docs, []byte(fmt.Sprintf([]string{"%d", "[%d]", "{%d", "%d.0", `{"a":%d}`}[r.Intn(5)], r.Intn(40))))
		}
		l, err := all.Load(docs, 2, workers)
		if err != nil {
			t.Fatal(err)
		}
		for i, b := range docs {
			var d api.Digest
			tree, err := parse.Read(b, 2)
			if err == nil {
				d, err = one.Put(tree)
			}
			if l[i] != (api.Loaded{Digest: d, Err: err}) {
				t.Fatalf("Load of %s: %v, want %v", b, l[i], err)
			}
		}
		if !bytes.Equal(one.Save(), all.Save()) || one.Changes() != all.Changes() {
			t.Fatalf("Load: %d documents, want %d", all.Len(), one.Len())
		}
	}
}

func row(parts ...string) string {
	s := ""
	for _, p := range parts {
		s += fmt.Sprintf("%d %s ", len(p), p)
	}
	return s
}

func text(d api.Digest) string { return string(d[:]) }

func TestSaveAndOpen(t *testing.T) {
	if b := store.New().Save(); string(b) != "15 affidavit store 0  0  " {
		t.Errorf("Save: %q", b)
	}
	one, two := "1", "2"
	if a, b := digest(one), digest(two); bytes.Compare(a[:], b[:]) > 0 {
		one, two = two, one
	}
	d, e := text(digest(one)), text(digest(two))
	word := "affidavit store"
	good := row(word, row(one, two), row("a", e, "b", d))
	s, err := store.Open([]byte(good))
	if err != nil || string(s.Save()) != good || s.Len() != 2 || s.Held() != 2 || s.Changes() != 0 || len(s.Names()) != 2 {
		t.Fatalf("Open: %v", err)
	}
	for b, at := range map[string]int{
		"x": 0, "15 affidavit store": 18, row(word): 3, row(word, ""): 3, row("x"): 0, row("affidavit stores", "", ""): 0, "": 3, row(word, "", "", ""): 3, row("x", "", "", ""): 0, row(word, "x", ""): 1, row(word, "x"): 1, row(word, row("1 "), ""): 1, row(word, row("1.0"), ""): 1, row(word, row("["), ""): 1, row(word, row(two, one), ""): 1, row(word, row(one, one), ""): 1, row(word, "", "x"): 2, row(word, "", row("a")): 2, row(word, "", row("a", d)): 2, row(word, row(one), row("a", "x")): 2, row(word, row(one), row("a", text(zero))): 2, row(word, row(one), row("b", d, "a", d)): 2, row(word, row(one), row("a", d, "a", d)): 2, row(word, row(one), row("\xFF", d)): 2, row(word, row(one), row("\uff61", d, "😀", d)): 2, row(word, row(""), ""): 1, good + "x": len(good), row(word, row(one), row("a", e)): 2, row(word, row(one), row("a", d, "b")): 2, row(word, row(one), row("a", d+"x")): 2, row(word, "x", "x", "x"): 1,
	} {
		if s, err := store.Open([]byte(b)); s != nil || err != (api.Spot{Err: api.ErrStore, At: at}) {
			t.Errorf("Open(%.60q): %v, want %d", b, err, at)
		}
	}
	if _, err := store.Open([]byte(row(word, row(one), row("", d, "😀", d, "\uff61", d)))); err != nil {
		t.Errorf("Open: %v", err)
	}
	var many []string
	for i := range api.MaxNames + 1 {
		many = append(many, fmt.Sprintf("n%05d", i), d)
	}
	if s, err := store.Open([]byte(row(word, row(one), row(many[2:]...)))); err != nil || len(s.Names()) != api.MaxNames {
		t.Errorf("Open with as many names as may be: %v", err)
	}
	if s, err := store.Open([]byte(row(word, row(one), row(many...)))); s != nil || err != (api.Spot{Err: api.ErrStore, At: 2}) {
		t.Errorf("Open with too many names: %v", err)
	}
}

// TestThereAndBack: what is saved is opened, and hangs on what there is alone.
func TestThereAndBack(t *testing.T) {
	r := rand.New(rand.NewSource(2))
	for range 200 {
		s, other := store.New(), store.New()
		var docs []string
		for range r.Intn(20) {
			docs = append(docs, fmt.Sprintf(`{"d":%d}`, r.Intn(30)))
		}
		for _, d := range docs {
			put(t, s, d)
		}
		for _, i := range r.Perm(len(docs)) {
			put(t, other, docs[i])
		}
		for i := range r.Intn(5) {
			if len(docs) > 0 {
				d := digest(docs[r.Intn(len(docs))])
				s.Set(fmt.Sprint("n", i), zero, d)
				put(t, other, `"gone"`)
				other.Set(fmt.Sprint("n", i), zero, digest(`"gone"`))
				other.Set(fmt.Sprint("n", i), digest(`"gone"`), d)
			}
		}
		var keep []api.Digest
		for d := range s.All() {
			keep = append(keep, d)
		}
		other.Sweep(keep)
		saved := s.Save()
		again, err := store.Open(saved)
		if err != nil || !bytes.Equal(saved, other.Save()) || !bytes.Equal(again.Save(), saved) || again.Changes() != 0 || again.Held() != s.Held() || again.Len() != s.Len() {
			t.Fatalf("Open of Save: %v", err)
		}
		c := s.Copy()
		if !bytes.Equal(c.Save(), saved) || c.Changes() != s.Changes() {
			t.Fatal("Copy")
		}
		put(t, c, `"more"`)
		s.Set("other", zero, digest(`"more"`))
		if !bytes.Equal(s.Save(), saved) || c.Changes() != s.Changes()+1 || c.Len() != s.Len()+1 {
			t.Fatal("what is done to a Copy is seen")
		}
		held := 0
		for _, tree := range s.All() {
			held += len(form(tree))
		}
		if held != s.Held() {
			t.Fatalf("Held: %d, want %d", s.Held(), held)
		}
	}
}

func TestMemory(t *testing.T) {
	s := store.New()
	d := put(t, s, "[1]")
	b, _ := s.Bytes(d)
	b[0] = 'x'
	if again, _ := s.Bytes(d); string(again) != "[1]" {
		t.Error("bytes are shared")
	}
	save := s.Save()
	again, _ := store.Open(save)
	save[5] = 'x'
	if again.Len() != 1 || string(again.Save()) != string(s.Save()) {
		t.Error("what was opened is shared")
	}
}

// TestAtOneTime: many goroutines put, set, sweep and ask.
func TestAtOneTime(t *testing.T) {
	s := store.New()
	start := put(t, s, `"start"`)
	s.Set("name", zero, start)
	var won atomic.Int32
	var wrong atomic.Int32
	var all sync.WaitGroup
	for i := range 8 {
		all.Go(func() {
			mine, _ := s.Put(read(t, fmt.Sprintf(`"own %d"`, i)))
			own := fmt.Sprint("own", i)
			if s.Set(own, zero, mine) != nil {
				wrong.Add(1) // a Sweep between may have taken it away
			}
			for k := range 40 {
				d, err := s.Put(read(t, fmt.Sprintf("[%d]", k)))
				if err != nil || d != digest(fmt.Sprintf("[%d]", k)) {
					wrong.Add(100)
				}
				for _, n := range s.Names() {
					if tree, err := s.Get(n.Digest); err == nil && digest(form(tree)) != n.Digest {
						wrong.Add(100)
					}
				}
				held := 0
				for d, tree := range s.All() {
					b := form(tree)
					if held += len(b); digest(b) != d {
						wrong.Add(100)
					}
				}
				if k == 20 && s.Set("name", start, d) == nil {
					won.Add(1)
				}
				s.Load([][]byte{[]byte("1"), []byte("x")}, 1, 2)
				s.Copy().Sweep(nil)
				if _, err := store.Open(s.Save()); err != nil {
					wrong.Add(100)
				}
				s.Len()
				s.Held()
				s.Changes()
				s.Name("name")
				s.Bytes(d)
			}
		})
	}
	all.Wait()
	if won.Load() != 1 || wrong.Load() > 0 {
		t.Errorf("%d Sets of one name went, %d wrong", won.Load(), wrong.Load())
	}
	if s.Len() != 1+8+40+1 || s.Changes() != uint64(s.Len()+8+2) {
		t.Errorf("Len %d, Changes %d", s.Len(), s.Changes())
	}
}
