package ledger_test

import (
	"bytes"
	"crypto/sha256"
	"fmt"
	"math"
	"math/rand"
	"reflect"
	"strings"
	"testing"

	"affidavit/api"
	"affidavit/book"
	"affidavit/canon"
	"affidavit/chain"
	"affidavit/digest"
	"affidavit/envelope"
	"affidavit/ledger"
	"affidavit/node"
	"affidavit/parse"
	"affidavit/pointer"
	"affidavit/witness"
)

func read(t testing.TB, s string) *node.Tree {
	t.Helper()
	tree, err := parse.Read([]byte(s), api.MaxDepth)
	if err != nil {
		t.Fatalf("%.80s: %v", s, err)
	}
	return tree
}

func key(name string, c byte) api.Key {
	return api.Key{Name: name, Secret: bytes.Repeat([]byte{c}, 16)}
}

var k, w, x = key("k", 0), key("w", 1), key("x", 2)

// charter is that of the document's examples.
func charter() api.Charter {
	return api.Charter{Origin: "o", Own: key("w", 1), Ring: []api.Key{key("k", 0)}, Kind: "t"}
}

func made(t testing.TB, c api.Charter) *ledger.Ledger {
	t.Helper()
	l, err := ledger.New(c)
	if err != nil {
		t.Fatalf("New: %v", err)
	}
	return l
}

func seal(t testing.TB, s, kind string, ring ...api.Key) []byte {
	t.Helper()
	b, err := envelope.Seal(read(t, s), kind, ring)
	if err != nil {
		t.Fatalf("Seal: %v", err)
	}
	return b
}

// submit submits a value that k has sealed under the kind t.
func submit(t testing.TB, l *ledger.Ledger, s string, now int64) api.Outcome {
	t.Helper()
	o, err := l.Submit(seal(t, s, "t", k), nil, now)
	if err != nil {
		t.Fatalf("Submit(%.80s): %v", s, err)
	}
	return o
}

// paper is the receipt of a statement that was entered.
func paper(t testing.TB, l *ledger.Ledger, s string, now int64) api.Receipt {
	t.Helper()
	e, ok := submit(t, l, s, now).(api.Entered)
	if !ok {
		t.Fatalf("%.80s is not entered", s)
	}
	return e.Receipt
}

// row is a row of parts, by the words of the document.
func row(parts ...string) string {
	var b strings.Builder
	for _, p := range parts {
		fmt.Fprintf(&b, "%d %s ", len(p), p)
	}
	return b.String()
}

func digests(t testing.TB, s string) (api.Digest, api.Digest) {
	t.Helper()
	tree := read(t, s)
	form, _ := canon.Bytes(tree)
	d, _ := digest.Of(tree)
	return sha256.Sum256(form), d
}

// entryBytes are an entry's bytes, by the words of the document.
func entryBytes(e api.Entry) string {
	return row("affidavit entry", string(e.Doc[:]), string(e.Value[:]), fmt.Sprint(e.Index), fmt.Sprint(e.Time))
}

// headOf is the head of entries under w's seal, by the words of the document.
func headOf(t testing.TB, origin string, entries ...api.Entry) []byte {
	t.Helper()
	b := book.New()
	h := api.Head{Origin: origin, Size: len(entries)}
	for _, e := range entries {
		if _, err := b.Append([]byte(entryBytes(e))); err != nil {
			t.Fatal(err)
		}
		h.Time = int(e.Time)
	}
	h.Root, _ = b.Root(len(entries))
	sealed, err := witness.Sign(h, []api.Key{w})
	if err != nil {
		t.Fatal(err)
	}
	return sealed
}

func TestExamples(t *testing.T) {
	c := charter()
	c.Kind = "head"
	if l, err := ledger.New(c); l != nil || err != api.ErrArg {
		t.Errorf("New of the kind head: %v", err)
	}
	c = charter()
	c.Ring = append(c.Ring, w)
	if l, err := ledger.New(c); l != nil || err != api.ErrArg {
		t.Errorf("New with w in the ring: %v", err)
	}
	l := made(t, charter())
	head, err := l.Head()
	if l.Size() != 0 || l.Time() != 0 || err != nil || !bytes.Equal(head, headOf(t, "o")) {
		t.Errorf("a new ledger: %d, %d, %s, %v", l.Size(), l.Time(), head, err)
	}
	var first api.Entry
	first.Doc, first.Value = digests(t, `{"a":1}`)
	first.Time = 5
	r := api.Receipt{Entry: first, Head: headOf(t, "o", first)}
	if o := submit(t, l, `{"a": 1}`, 5); !same(o, api.Entered{Receipt: r}) {
		t.Errorf("the first statement: %v", o)
	}
	if o := submit(t, l, `{"a": 1.0}`, 9); !same(o, api.Known{Receipt: r}) || l.Size() != 1 || l.Time() != 5 {
		t.Errorf("the first statement, once more: %v", o)
	}
	o, err := l.Submit(seal(t, `{"a": 2}`, "u", k), nil, 9)
	if err != nil || !same(o, api.Doubted{Why: api.Fails{Why: api.Barred{May: []string{"u"}}}}) {
		t.Errorf("another kind: %v, %v", o, err)
	}
	o, err = l.Submit(seal(t, `{"a": 2}`, "t", x), nil, 9)
	if err != nil || !same(o, api.Doubted{Why: api.Doubts{Trust: api.Weak{Need: 1}}}) {
		t.Errorf("another's seal: %v, %v", o, err)
	}
	if o := submit(t, l, `{"until": 7}`, 9); !same(o, api.Declined{Why: api.Over{Until: 7}}) {
		t.Errorf("until 7, at 9: %v", o)
	}
	if r := paper(t, l, `{"until": 7}`, 6); r.Entry.Index != 1 || r.Entry.Time != 6 || len(r.Proof) != 1 {
		t.Errorf("until 7, at 6: %v", r)
	}
	if o, err := l.Submit(seal(t, `{"until": 7}`, "t", k), nil, 4); o != nil || err != api.ErrArg {
		t.Errorf("until 7, at 4: %v, %v", o, err)
	}
	if o := submit(t, l, "1", 9); !same(o, api.Declined{Why: &api.Broken{Err: api.Trail{Err: api.ErrSort}}}) {
		t.Errorf("a number: %v", o)
	}
	logs := []api.Key{w}
	if err := ledger.Check(r, read(t, `{"a": 1}`), logs); err != nil {
		t.Errorf("Check: %v", err)
	}
	if err := ledger.Check(r, read(t, `{"a": 2}`), logs); err != api.ErrPaper {
		t.Errorf("Check of another one: %v", err)
	}
	if err := ledger.Check(r, read(t, `{"a": 1}`), nil); err != api.ErrSeal {
		t.Errorf("Check without logs: %v", err)
	}
	exampleParts(t, l, first.Doc)
	exampleShows(t, l)
	exampleSaves(t, l)
}

func exampleParts(t *testing.T, l *ledger.Ledger, d api.Digest) {
	r, p, err := l.Part(d, "/a")
	if err != nil || len(p.Levels) != 1 {
		t.Fatalf("Part: %v, %v", p, err)
	}
	if err := ledger.CheckPart(r, "/a", read(t, "1"), p, []api.Key{w}); err != nil {
		t.Errorf("CheckPart: %v", err)
	}
	if err := ledger.CheckPart(r, "/a", read(t, "2"), p, []api.Key{w}); err != api.ErrSum {
		t.Errorf("CheckPart of another part: %v", err)
	}
}

func exampleShows(t *testing.T, l *ledger.Ledger) {
	v, err := witness.New(key("v", 3), []api.Key{w})
	if err != nil {
		t.Fatal(err)
	}
	for _, want := range []api.Finding{api.Fresh{Origin: "o", Size: 2}, api.Again{Origin: "o", Size: 2}} {
		if b, f, err := l.Show(v); b == nil || f != want || err != nil {
			t.Errorf("Show: %v, %v, want %v", f, err, want)
		}
	}
	paper(t, l, `{"third": true}`, 9)
	if b, f, err := l.Show(v); b == nil || f != (api.Grown{Origin: "o", From: 2, To: 3}) || err != nil {
		t.Errorf("Show of a third one: %v, %v", f, err)
	}
}

func exampleSaves(t *testing.T, l *ledger.Ledger) {
	if got, want := string(l.Save()), row("affidavit ledger", row(`{"a":1}`, "5", `{"until":7}`, "6", `{"third":true}`, "9")); got != want {
		t.Errorf("Save: %q, want %q", got, want)
	}
	again, err := ledger.Open(charter(), l.Save())
	if err != nil || !bytes.Equal(again.Save(), l.Save()) {
		t.Errorf("Open: %v", err)
	}
	if l, err := ledger.Open(charter(), []byte("x")); l != nil || err != api.ErrLedger {
		t.Errorf("Open of x: %v", err)
	}
	if l, err := ledger.Open(charter(), []byte(row("affidavit ledger", row("1", "03")))); l != nil || err != (api.Spot{Err: api.ErrLedger}) {
		t.Errorf("Open of 1, 03: %v", err)
	}
}

// same holds outcomes, verdicts against each other; nil and empty lists are one.
func same(a, b any) bool { return reflect.TypeOf(a) == reflect.TypeOf(b) && plain(a) == plain(b) }

// plain is an outcome as a text, in which lists without elements are alike.
func plain(o any) string {
	switch y := o.(type) {
	case api.Entered:
		return fmt.Sprintf("%v", y)
	case api.Known:
		return fmt.Sprintf("%v", y)
	case api.Doubted:
		return fmt.Sprintf("%T %+v", y.Why, y.Why)
	case api.Declined:
		if b, ok := y.Why.(*api.Broken); ok {
			return fmt.Sprintf("broken %T %v", b.Err, b.Err)
		}
		return fmt.Sprintf("%T %+v", y.Why, y.Why)
	case *api.Full:
		return fmt.Sprintf("full %T %v", y.Err, y.Err)
	}
	return fmt.Sprintf("%T %+v", o, o)
}

func TestCharters(t *testing.T) {
	long, huge := strings.Repeat("é", 128), strings.Repeat("n", 257)
	many := make([]api.Key, api.MaxKeys+1)
	for i := range many {
		many[i] = key(fmt.Sprint("k", i), byte(i))
	}
	cases := []struct {
		change func(c *api.Charter)
		want   error
	}{
		{func(c *api.Charter) {}, nil},
		{func(c *api.Charter) { c.Origin = "" }, api.ErrArg},
		{func(c *api.Charter) { c.Origin = long }, nil},
		{func(c *api.Charter) { c.Origin = huge }, api.ErrArg},
		{func(c *api.Charter) { c.Origin = "\xED\xA0\x80" }, api.ErrArg},
		{func(c *api.Charter) { c.Kind = "" }, api.ErrArg},
		{func(c *api.Charter) { c.Kind = long }, nil},
		{func(c *api.Charter) { c.Kind = huge }, api.ErrArg},
		{func(c *api.Charter) { c.Kind = "\xFF" }, api.ErrArg},
		{func(c *api.Charter) { c.Kind = "head" }, api.ErrArg},
		{func(c *api.Charter) { c.Kind = "grant" }, api.ErrArg},
		{func(c *api.Charter) { c.Kind = "heads" }, nil},
		{func(c *api.Charter) { c.Own = api.Key{} }, api.ErrArg},
		{func(c *api.Charter) { c.Own.Secret = make([]byte, 15) }, api.ErrArg},
		{func(c *api.Charter) { c.Own.Secret = make([]byte, 4096) }, nil},
		{func(c *api.Charter) { c.Own.Name = "k" }, api.ErrArg},
		{func(c *api.Charter) { c.Ring = nil }, api.ErrArg},
		{func(c *api.Charter) { c.Ring = append(c.Ring, k) }, api.ErrArg},
		{func(c *api.Charter) { c.Ring = append(c.Ring, x) }, nil},
		{func(c *api.Charter) { c.Ring = append(c.Ring, key("w", 9)) }, api.ErrArg},
		{func(c *api.Charter) { c.Ring[0].Name = "" }, api.ErrArg},
		{func(c *api.Charter) { c.Ring = many }, api.ErrArg},
		{func(c *api.Charter) { c.Ring = many[1:] }, nil},
		{func(c *api.Charter) { c.Rules.Slack = -1 }, api.ErrArg},
		{func(c *api.Charter) { c.Rules.Slack = api.MaxTime }, nil},
		{func(c *api.Charter) { c.Rules.Slack = api.MaxTime + 1 }, api.ErrArg},
		{func(c *api.Charter) { c.Rules.Now = -1 }, api.ErrArg},
		{func(c *api.Charter) { c.Rules.Now = api.MaxTime }, nil},
	}
	for i, want := range cases {
		c := charter()
		want.change(&c)
		l, err := ledger.New(c)
		if err != want.want || (l == nil) != (err != nil) {
			t.Errorf("charter %d: %v, want %v", i, err, want.want)
		}
		l, err = ledger.Open(c, []byte("x"))
		if l != nil || want.want != nil && err != api.ErrArg || want.want == nil && err != api.ErrLedger {
			t.Errorf("charter %d: Open: %v", i, err)
		}
	}
}

func TestRules(t *testing.T) {
	c := charter()
	c.Rules = api.Rules{Now: 77, Slack: 2, Who: "me", By: []string{"k"}, Need: []string{"id"}, May: []string{"never"}}
	l := made(t, c)
	for i, want := range []struct {
		s   string
		now int64
		o   api.Verdict
	}{
		{`{"by":"k"}`, 5, api.Lacks{Claim: "id"}},
		{`{"id":"1"}`, 5, api.Alien{}},
		{`{"id":"1","by":"x"}`, 5, api.Alien{By: "x"}},
		{`{"id":"1","by":"k","for":["you"]}`, 5, api.Other{For: []string{"you"}}},
		{`{"id":"1","by":"k","at":8}`, 5, api.Early{From: 8}},
		{`{"id":"1","by":"k","until":3}`, 5, api.Over{Until: 3}},
		{`{"id":"1","by":"k","until":4,"at":7,"for":"me"}`, 5, nil},
		{`{"id":"2","by":"k"}`, 5, nil},
	} {
		switch o := submit(t, l, want.s, want.now).(type) {
		case api.Entered:
			if want.o != nil {
				t.Errorf("case %d is entered", i)
			}
		case api.Declined:
			if want.o == nil || !same(o.Why, want.o) {
				t.Errorf("case %d: %v, want %v", i, o.Why, want.o)
			}
		default:
			t.Errorf("case %d: %v", i, o)
		}
	}
}

func TestSubmitBehindGrants(t *testing.T) {
	g, a, err := chain.Grant(k, api.Claims{Has: []string{"about", "by", "may", "until"}, About: "a", By: "k", May: []string{"t", "u"}, Until: 100})
	if err != nil {
		t.Fatal(err)
	}
	l := made(t, charter())
	s, u := seal(t, `{"s":1}`, "t", a), seal(t, `{"s":1}`, "u", a)
	for i, want := range []struct {
		b      []byte
		grants [][]byte
		now    int64
		o      api.Outcome
	}{
		{s, [][]byte{g}, 100, api.Doubted{Why: api.Fails{Why: api.Over{Until: 100}}}},
		{u, [][]byte{g}, 99, api.Doubted{Why: api.Fails{N: 1, Why: api.Barred{May: []string{"u"}}}}},
		{s, nil, 99, api.Doubted{Why: api.Doubts{Trust: api.Weak{Need: 1}}}},
		{s, [][]byte{s}, 99, api.Doubted{Why: api.Doubts{Trust: api.Weak{Need: 1}}}},
		{nil, [][]byte{g}, 99, api.Doubted{Why: api.Breaks{N: 1, Err: api.Spot{Err: api.ErrEnd}}}},
		{s, [][]byte{seal(t, "1", "t", k)}, 99, api.Doubted{Why: api.Breaks{Err: api.ErrGrant}}},
		{seal(t, `[]`, "t", a), [][]byte{g}, 99, api.Declined{Why: &api.Broken{Err: api.Trail{Err: api.ErrSort}}}},
	} {
		o, err := l.Submit(want.b, want.grants, want.now)
		if err != nil || !same(o, want.o) || o.Kept() {
			t.Errorf("case %d: %v, %v, want %v", i, plain(o), err, plain(want.o))
		}
	}
	if l.Size() != 0 || l.Time() != 0 {
		t.Errorf("what was refused has changed something: %d, %d", l.Size(), l.Time())
	}
	o, err := l.Submit(s, [][]byte{g}, 99)
	if e, ok := o.(api.Entered); !ok || err != nil || e.Entry.Time != 99 {
		t.Errorf("behind the grant: %v, %v", o, err)
	}
	if o, err := l.Submit(s, make([][]byte, api.MaxChain+1), 99); o != nil || err != api.ErrLong {
		t.Errorf("too many grants: %v, %v", o, err)
	}
	if o, err := l.Submit(s, make([][]byte, api.MaxChain+1), 98); o != nil || err != api.ErrArg {
		t.Errorf("too many grants, too early: %v, %v", o, err)
	}
	if o, err := l.Submit(s, make([][]byte, api.MaxChain), 99); err != nil || !same(o, api.Doubted{Why: api.Breaks{Err: api.Spot{Err: api.ErrEnd}}}) {
		t.Errorf("grants of no bytes: %v, %v", o, err)
	}
}

func TestTimes(t *testing.T) {
	l := made(t, charter())
	b := seal(t, "{}", "t", k)
	for _, now := range []int64{-1, math.MinInt64, api.MaxTime + 1, math.MaxInt64} {
		if o, err := l.Submit(b, nil, now); o != nil || err != api.ErrArg {
			t.Errorf("at %d: %v, %v", now, o, err)
		}
	}
	paper(t, l, "{}", 0)
	paper(t, l, `{"a":1}`, 0)
	paper(t, l, `{"a":2}`, api.MaxTime)
	if o, err := l.Submit(b, nil, api.MaxTime-1); o != nil || err != api.ErrArg {
		t.Errorf("ahead of the ledger's time: %v, %v", o, err)
	}
	paper(t, l, `{"a":3}`, api.MaxTime)
	again, err := ledger.Open(charter(), l.Save())
	if err != nil || again.Time() != api.MaxTime {
		t.Errorf("Open: %v", err)
	}
}

func TestNil(t *testing.T) {
	var l *ledger.Ledger
	v, _ := witness.New(key("v", 3), []api.Key{w})
	o, err1 := l.Submit(nil, nil, -1)
	h, err2 := l.Head()
	e, err3 := l.Entry(0)
	d, err4 := l.Document(api.Digest{})
	p, err5 := l.Prove(api.Digest{})
	r, q, err6 := l.Part(api.Digest{}, "x")
	g, err7 := l.Grew(-1)
	b, f, err8 := l.Show(v)
	for i, err := range []error{err1, err2, err3, err4, err5, err6, err7, err8} {
		if err != api.ErrNil {
			t.Errorf("call %d: %v", i, err)
		}
	}
	if o != nil || h != nil || e != (api.Entry{}) || d != nil || p.Head != nil || r.Head != nil || q.Levels != nil || g != nil || b != nil || f != nil {
		t.Error("something is told beside ErrNil")
	}
	if l.Size() != 0 || l.Time() != 0 || l.Copy() != nil || l.Save() != nil {
		t.Error("of nil")
	}
	if b, f, err := made(t, charter()).Show(nil); b != nil || f != nil || err != api.ErrNil {
		t.Errorf("Show to nil: %v", err)
	}
	if err := ledger.Check(api.Receipt{}, nil, []api.Key{{}}); err != api.ErrNil {
		t.Errorf("Check of nil: %v", err)
	}
	if err := ledger.CheckPart(api.Receipt{}, "x", nil, api.Proof{}, []api.Key{{}}); err != api.ErrNil {
		t.Errorf("CheckPart of nil: %v", err)
	}
}

func TestAsking(t *testing.T) {
	l := made(t, charter())
	r := paper(t, l, `{"a":[1,2]}`, 3)
	for _, i := range []int{-1, 1, math.MaxInt, math.MinInt} {
		if e, err := l.Entry(i); e != (api.Entry{}) || err != api.ErrArg {
			t.Errorf("Entry(%d): %v, %v", i, e, err)
		}
	}
	if e, err := l.Entry(0); e != r.Entry || err != nil {
		t.Errorf("Entry(0): %v, %v", e, err)
	}
	none := api.Digest{1}
	if d, err := l.Document(none); d != nil || err != api.ErrNone {
		t.Errorf("Document of none: %v", err)
	}
	if d, err := l.Document(r.Entry.Value); d != nil || err != api.ErrNone {
		t.Errorf("Document of a value's digest: %v", err)
	}
	if p, err := l.Prove(none); p.Head != nil || err != api.ErrNone {
		t.Errorf("Prove of none: %v", err)
	}
	if p, _, err := l.Part(none, "x"); p.Head != nil || err != api.ErrNone {
		t.Errorf("Part of none: %v", err)
	}
	if p, _, err := l.Part(r.Entry.Doc, "x"); p.Head != nil || err != (api.Spot{Err: api.ErrPointer}) {
		t.Errorf("Part of no pointer: %v", err)
	}
	if p, _, err := l.Part(r.Entry.Doc, "/b"); p.Head != nil || err != (api.Trail{Err: api.ErrNone}) {
		t.Errorf("Part of what is not there: %v", err)
	}
	if d, err := l.Document(r.Entry.Doc); err != nil || ledger.Check(r, d, []api.Key{w}) != nil {
		t.Errorf("Document: %v", err)
	}
	for _, m := range []int{-1, 2} {
		if p, err := l.Grew(m); p != nil || err != api.ErrArg {
			t.Errorf("Grew(%d): %v, %v", m, p, err)
		}
	}
}

func TestFull(t *testing.T) {
	l := made(t, charter())
	fill := func(i int) string { return fmt.Sprintf(`{"%02d":"%s"}`, i, strings.Repeat("a", 1<<20-9)) } // 2^20 bytes of each one
	for i := range 16 {
		paper(t, l, fill(i), int64(i))
	}
	saved := l.Save()
	o := submit(t, l, "{}", 99)
	if f, ok := o.(*api.Full); !ok || f.Err != api.ErrFull || o.Kept() {
		t.Errorf("one document more: %v", plain(o))
	}
	if _, proved := o.(api.Proved); proved {
		t.Error("Full is proved")
	}
	if l.Size() != 16 || l.Time() != 15 || !bytes.Equal(l.Save(), saved) {
		t.Error("what is full has changed")
	}
	if o, ok := submit(t, l, fill(3), 99).(api.Known); !ok || o.Entry.Index != 3 {
		t.Errorf("one that is there: %v", plain(o))
	}
	parts := []string{}
	for i := range 16 {
		parts = append(parts, fill(i), "7")
	}
	if _, err := ledger.Open(charter(), []byte(row("affidavit ledger", row(parts...)))); err != nil {
		t.Errorf("Open of a full one: %v", err)
	}
	parts = append(parts, "{}", "7")
	if l, err := ledger.Open(charter(), []byte(row("affidavit ledger", row(parts...)))); l != nil || err != (api.Spot{Err: api.ErrLedger, At: 16}) {
		t.Errorf("Open of a document too much: %v", err)
	}
}

func TestAsManyAsMayBe(t *testing.T) {
	l := made(t, charter())
	for i := range api.MaxDocs {
		paper(t, l, fmt.Sprintf(`{"n":%d}`, i), 1)
	}
	saved := l.Save()
	if f, ok := submit(t, l, "{}", 1).(*api.Full); !ok || f.Err != api.ErrFull || !bytes.Equal(l.Save(), saved) {
		t.Error("one document more than may be")
	}
	again, err := ledger.Open(charter(), saved)
	if err != nil || again.Size() != api.MaxDocs {
		t.Fatalf("Open: %v", err)
	}
	d, _ := digests(t, `{"n":4000}`)
	if r, err := again.Prove(d); err != nil || r.Entry.Index != 4000 || ledger.Check(r, read(t, `{"n":4000}`), []api.Key{w}) != nil {
		t.Errorf("Prove: %v", err)
	}
}

func TestOpen(t *testing.T) {
	of := func(parts ...string) string { return row("affidavit ledger", row(parts...)) }
	at := func(i int) error { return api.Spot{Err: api.ErrLedger, At: i} }
	for i, c := range []struct {
		b    string
		want error
	}{
		{"", api.ErrLedger}, {"1 ", api.ErrLedger}, {row("affidavit ledger"), api.ErrLedger}, {row("affidavit ledger", ""), nil}, {row("affidavit ledger", "", ""), api.ErrLedger}, {row("affidavit store", ""), api.ErrLedger}, {row("affidavit ledger", "x"), api.ErrLedger}, {of("1"), api.ErrLedger}, {of("x", "x", "x"), api.ErrLedger}, {of("1", "0"), nil}, {of("1", "00"), at(0)}, {of("1", ""), at(0)}, {of("1", "-1"), at(0)}, {of("1", "-0"), at(0)}, {of("1", "+1"), at(0)}, {of("1", " 1"), at(0)}, {of("1", "1_0"), at(0)}, {of("1", "0x1"), at(0)}, {of("1", "9007199254740991"), nil}, {of("1", "9007199254740992"), at(0)}, {of("1", strings.Repeat("9", 30)), at(0)}, {of("1.0", "1"), at(0)}, {of("", "1"), at(0)}, {of(" 1", "1"), at(0)}, {of(strings.Repeat("[", 512)+strings.Repeat("]", 512), "1"), nil}, {of(strings.Repeat("[", 513)+strings.Repeat("]", 513), "1"), at(0)}, {of("1", "5", "2", "5"), nil}, {of("1", "5", "2", "4"), at(1)}, {of("1", "5", "1", "6"), at(1)}, {of("1", "5", "2", "6", "1", "5"), at(2)}, {of("1", "5", "x", "6", "1", "5"), at(1)},
	} {
		l, err := ledger.Open(charter(), []byte(c.b))
		if err != c.want || (l == nil) != (err != nil) {
			t.Errorf("case %d: %v, want %v", i, err, c.want)
		}
		if err == nil && string(l.Save()) != c.b {
			t.Errorf("case %d: saved as %q", i, l.Save())
		}
	}
}

func TestBytes(t *testing.T) {
	for _, e := range []api.Entry{{}, {Index: -1, Time: -5, Doc: api.Digest{1}}, {Index: math.MinInt, Time: math.MinInt64}, {Index: math.MaxInt, Time: math.MaxInt64, Value: api.Digest{7}}} {
		if got := string(ledger.Bytes(e)); got != entryBytes(e) {
			t.Errorf("Bytes(%v): %q", e, got)
		}
	}
}

func TestCheck(t *testing.T) {
	l := made(t, charter())
	paper(t, l, `{"a":1}`, 3)
	good := paper(t, l, `{"b":[1,2]}`, 4)
	doc, logs := read(t, `{"b":[1,2]}`), []api.Key{w}
	good, p, err := l.Part(good.Entry.Doc, "/b/0")
	if err != nil {
		t.Fatal(err)
	}
	other := api.Digest{9}
	kind := seal(t, `{"origin":"o"}`, "t", w)
	cases := []struct {
		change      func(r *api.Receipt)
		logs        []api.Key
		whole, part error
	}{
		{func(r *api.Receipt) {}, logs, nil, nil},
		{func(r *api.Receipt) {}, []api.Key{w, x}, nil, nil},
		{func(r *api.Receipt) {}, []api.Key{w, w}, api.ErrArg, api.ErrArg},
		{func(r *api.Receipt) {}, []api.Key{x}, api.ErrSeal, api.ErrSeal},
		{func(r *api.Receipt) {}, []api.Key{key("w", 8)}, api.ErrSeal, api.ErrSeal},
		{func(r *api.Receipt) { r.Head = nil }, logs, api.Spot{Err: api.ErrEnd}, api.Spot{Err: api.ErrEnd}},
		{func(r *api.Receipt) { r.Head = kind }, logs, api.ErrKind, api.ErrKind},
		{func(r *api.Receipt) { r.Entry.Doc = other }, logs, api.ErrPaper, api.ErrRoot},
		{func(r *api.Receipt) { r.Entry.Value = other }, logs, api.ErrPaper, api.ErrSum},
		{func(r *api.Receipt) { r.Entry.Index = 0 }, logs, api.ErrRoot, api.ErrRoot},
		{func(r *api.Receipt) { r.Entry.Index = 2 }, logs, api.ErrArg, api.ErrArg},
		{func(r *api.Receipt) { r.Entry.Index = -1 }, logs, api.ErrArg, api.ErrArg},
		{func(r *api.Receipt) { r.Entry.Time++ }, logs, api.ErrRoot, api.ErrRoot},
		{func(r *api.Receipt) { r.Proof = nil }, logs, api.Spot{Err: api.ErrProof, At: 1}, api.Spot{Err: api.ErrProof, At: 1}},
		{func(r *api.Receipt) { r.Proof = []api.Digest{other} }, logs, api.ErrRoot, api.ErrRoot},
		{func(r *api.Receipt) { r.Head = headOf(t, "o", r.Entry) }, logs, api.ErrArg, api.ErrArg},
		{func(r *api.Receipt) { r.Entry.Doc, r.Head = other, nil }, []api.Key{{}}, api.ErrArg, api.ErrArg},
	}
	for i, c := range cases {
		r := good
		c.change(&r)
		if err := ledger.Check(r, doc, c.logs); err != c.whole {
			t.Errorf("case %d: Check: %v, want %v", i, err, c.whole)
		}
		if err := ledger.CheckPart(r, "/b/0", read(t, "1"), p, c.logs); err != c.part {
			t.Errorf("case %d: CheckPart: %v, want %v", i, err, c.part)
		}
	}
	good.Proof = nil
	for i, c := range []struct {
		pointer, part string
		p             api.Proof
		want          error
	}{
		{"/b/1", "1", p, api.Spot{Err: api.ErrLevels}}, {"b", "1", p, api.Spot{Err: api.ErrPointer}}, {"/b/0", "1", api.Proof{}, api.Spot{Err: api.ErrLevels, At: 2}}, {"/b/0", "2", p, api.ErrSum}, {"/c/0", "1", p, api.ErrSum}, {"/b/0", "1", p, api.Spot{Err: api.ErrProof, At: 1}},
	} {
		if err := ledger.CheckPart(good, c.pointer, read(t, c.part), c.p, logs); err != c.want {
			t.Errorf("part %d: %v, want %v", i, err, c.want)
		}
	}
}

func TestShow(t *testing.T) {
	l := made(t, charter())
	paper(t, l, `{"a":1}`, 3)
	young := l.Copy()
	paper(t, l, `{"a":2}`, 3)
	v, _ := witness.New(key("v", 3), []api.Key{w})
	if _, f, err := l.Show(v); f != (api.Fresh{Origin: "o", Size: 2}) || err != nil {
		t.Errorf("Show: %v, %v", f, err)
	}
	if b, f, err := young.Show(v); b != nil || f != (api.Stale{Origin: "o", Size: 1, Have: 2}) || err != nil {
		t.Errorf("Show of a younger one: %v, %v", f, err)
	}
	paper(t, young, `{"a":3}`, 3)
	if _, f, err := young.Show(v); reflect.TypeOf(f) != reflect.TypeOf(api.Split{}) || err != nil {
		t.Errorf("Show of another one: %v, %v", f, err)
	}
	paper(t, young, `{"a":4}`, 3)
	if _, f, err := young.Show(v); f != (api.Unproved{Origin: "o", Err: api.ErrRoot}) || err != nil {
		t.Errorf("Show of another one that has grown: %v, %v", f, err)
	}
	stranger, _ := witness.New(key("v", 3), []api.Key{x})
	if b, f, err := l.Show(stranger); b != nil || f != nil || err != api.ErrStrange {
		t.Errorf("Show to a stranger: %v, %v", f, err)
	}
	clash, _ := witness.New(key("w", 3), []api.Key{x})
	if b, f, err := l.Show(clash); b != nil || f != nil || err != api.ErrStrange {
		t.Errorf("Show to one of its own name: %v, %v", f, err)
	}
	head, _ := l.Head()
	sealed, f, err := l.Show(v)
	want, _ := envelope.Add(head, key("v", 3))
	if !bytes.Equal(sealed, want) || f != (api.Again{Origin: "o", Size: 2}) || err != nil {
		t.Errorf("Show again: %v, %v", f, err)
	}
	other := charter()
	other.Origin = "p"
	if _, f, err := made(t, other).Show(v); f != (api.Fresh{Origin: "p"}) || err != nil {
		t.Errorf("Show of another origin: %v, %v", f, err)
	}
}

func TestMemory(t *testing.T) {
	c := charter()
	c.Rules.Need, c.Rules.By = []string{"id"}, []string{"k"}
	l := made(t, c)
	c.Own.Secret[0], c.Ring[0].Secret[0], c.Ring[0].Name, c.Rules.Need[0], c.Rules.By[0] = 9, 9, "z", "until", "z"
	b := seal(t, `{"id":"1","by":"k"}`, "t", k)
	was := bytes.Clone(b)
	o, err := l.Submit(b, nil, 1)
	if _, ok := o.(api.Entered); !ok || err != nil || !bytes.Equal(b, was) {
		t.Fatalf("what was handed in is kept: %v, %v", plain(o), err)
	}
	o, err = l.Submit(seal(t, `{"id":"2","by":"k"}`, "t", k), nil, 1)
	r, ok := o.(api.Entered)
	if !ok || err != nil {
		t.Fatalf("the second one: %v, %v", plain(o), err)
	}
	saved, head := l.Save(), bytes.Clone(r.Head)
	r.Head[0]++
	r.Proof[0][0]++
	b[0]++
	again, err := l.Prove(r.Entry.Doc)
	if err != nil || !bytes.Equal(again.Head, head) || ledger.Check(again, read(t, `{"id":"2","by":"k"}`), []api.Key{w}) != nil {
		t.Errorf("an answer is shared: %v", err)
	}
	saved[0]++
	if bytes.Equal(saved, l.Save()) {
		t.Error("the saved bytes are shared")
	}
}

func TestCopy(t *testing.T) {
	l := made(t, charter())
	paper(t, l, `{"a":1}`, 1)
	one, two := l.Copy(), l.Copy()
	paper(t, one, `{"a":2}`, 2)
	paper(t, two, `{"a":3}`, 3)
	paper(t, l, `{"a":4}`, 4)
	for i, c := range []struct {
		l    *ledger.Ledger
		last string
		time int64
	}{{one, `{"a":2}`, 2}, {two, `{"a":3}`, 3}, {l, `{"a":4}`, 4}} {
		if got := string(c.l.Save()); got != row("affidavit ledger", row(`{"a":1}`, "1", c.last, fmt.Sprint(c.time))) {
			t.Errorf("ledger %d: %q", i, got)
		}
		d, _ := digests(t, c.last)
		r, err := c.l.Prove(d)
		if err != nil || ledger.Check(r, read(t, c.last), []api.Key{w}) != nil {
			t.Errorf("ledger %d proves nothing: %v", i, err)
		}
		d, _ = digests(t, `{"a":2}`)
		if _, err := c.l.Document(d); (err == nil) != (i == 0) {
			t.Errorf("ledger %d: what was done to one is seen in the other", i)
		}
	}
}

// told is what a ledger has told so far.
type told struct {
	docs     []string
	times    []int64
	receipts []api.Receipt
	heads    [][]byte
}

// is looks whether a ledger still has, and proves, all that it told.
func (m *told) is(t *testing.T, l *ledger.Ledger) {
	t.Helper()
	logs := []api.Key{w}
	var parts []string
	for i, s := range m.docs {
		parts = append(parts, s, fmt.Sprint(m.times[i]))
		e, err := l.Entry(i)
		doc, value := digests(t, s)
		if err != nil || e != (api.Entry{Index: i, Time: m.times[i], Doc: doc, Value: value}) {
			t.Fatalf("entry %d: %v, %v", i, e, err)
		}
		r, err := l.Prove(doc)
		d, err2 := l.Document(doc)
		form, _ := canon.Bytes(d)
		if err != nil || err2 != nil || string(form) != s || ledger.Check(r, d, logs) != nil {
			t.Fatalf("entry %d is not proved: %v, %v", i, err, err2)
		}
		checkParts(t, l, doc, d)
	}
	for _, r := range m.receipts {
		if err := ledger.Check(r, read(t, m.docs[r.Entry.Index]), logs); err != nil {
			t.Fatalf("an old receipt: %v", err)
		}
	}
	if string(l.Save()) != row("affidavit ledger", row(parts...)) {
		t.Fatalf("Save: %q", l.Save())
	}
	now, _ := l.Head()
	h, _, _ := witness.Check(now, logs, 1)
	for _, b := range m.heads {
		old, _, err := witness.Check(b, logs, 1)
		proof, err2 := l.Grew(old.Size)
		if err != nil || err2 != nil || book.CheckGrowth(old.Size, old.Root, h.Size, h.Root, proof) != nil {
			t.Fatalf("a head did not grow: %v, %v", err, err2)
		}
	}
}

// checkParts looks whether all parts of a document are proved.
func checkParts(t *testing.T, l *ledger.Ledger, doc api.Digest, d *node.Tree) {
	t.Helper()
	for at, part := range pointer.All(d) {
		r, p, err := l.Part(doc, at)
		if err != nil || ledger.CheckPart(r, at, part.Tree(), p, []api.Key{w}) != nil {
			t.Fatalf("the part %q is not proved: %v", at, err)
		}
	}
}

func TestWhatFollows(t *testing.T) {
	random := rand.New(rand.NewSource(31))
	for range 20 {
		l, m := made(t, charter()), &told{}
		v, _ := witness.New(key("v", 3), []api.Key{w})
		for step := range 30 {
			doc := fmt.Sprintf(`{"n":%d}`, random.Intn(20))
			if random.Intn(3) == 0 {
				doc = fmt.Sprintf(`{"l":[%d,{"x":"y"}],"until":%d}`, random.Intn(5), random.Intn(60))
			}
			m.step(t, l, doc, int64(random.Intn(50)), random.Intn(8) == 0)
			if random.Intn(3) == 0 {
				m.show(t, l, v)
			}
			if step%10 == 9 {
				m.is(t, l)
				again, err := ledger.Open(charter(), l.Save())
				if err != nil {
					t.Fatal(err)
				}
				m.is(t, again)
				a, _ := l.Head()
				b, _ := again.Head()
				if !bytes.Equal(a, b) || !bytes.Equal(l.Save(), again.Save()) {
					t.Fatal("a ledger that was read again is another one")
				}
				l = again
			}
		}
	}
}

// step submits a document, and holds what comes of it against what was told.
func (m *told) step(t *testing.T, l *ledger.Ledger, doc string, now int64, foreign bool) {
	t.Helper()
	ring := []api.Key{k}
	if foreign {
		ring = []api.Key{x}
	}
	saved := l.Save()
	o, err := l.Submit(seal(t, doc, "t", ring...), nil, now)
	if err != nil && (err != api.ErrArg || now >= l.Time() || o != nil) {
		t.Fatalf("Submit: %v, %v", o, err)
	}
	if err == nil {
		r, proved := o.(api.Proved)
		if proved != o.Kept() || proved && ledger.Check(r.Paper(), read(t, doc), []api.Key{w}) != nil {
			t.Fatalf("what is proved: %v", plain(o))
		}
		if proved {
			m.receipts, m.heads = append(m.receipts, r.Paper()), append(m.heads, r.Paper().Head)
		}
	}
	if e, ok := o.(api.Entered); ok {
		m.docs, m.times = append(m.docs, doc), append(m.times, now)
		if e.Entry.Index != len(m.docs)-1 || l.Size() != len(m.docs) || l.Time() != now {
			t.Fatalf("entered: %v", e.Entry)
		}
	} else if !bytes.Equal(saved, l.Save()) {
		t.Fatalf("%v has changed something", plain(o))
	}
	if foreign && err == nil && reflect.TypeOf(o) != reflect.TypeOf(api.Doubted{}) {
		t.Fatalf("another's seal: %v", plain(o))
	}
}

// show shows the ledger to a witness, who finds nothing wrong.
func (m *told) show(t *testing.T, l *ledger.Ledger, v *witness.Witness) {
	t.Helper()
	b, f, err := l.Show(v)
	if _, ok := f.(api.Taken); !ok || err != nil {
		t.Fatalf("Show: %v, %v", f, err)
	}
	m.heads = append(m.heads, b)
}
