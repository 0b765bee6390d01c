package seq_test

import (
	"bytes"
	"fmt"
	"math"
	"math/rand"
	"slices"
	"strings"
	"testing"

	"affidavit/api"
	"affidavit/canon"
	"affidavit/node"
	"affidavit/parse"
	"affidavit/seq"
)

// row is a text in which S and N stand for the sign and a line feed.
func row(s string) []byte {
	return []byte(strings.NewReplacer("S", "\x1e", "N", "\n").Replace(s))
}

func read(t testing.TB, s string) *node.Tree {
	t.Helper()
	tree, err := parse.Read([]byte(s), api.MaxDepth)
	if err != nil {
		t.Fatalf("%.80s: %v", s, err)
	}
	return tree
}

// shown is what was told of a record.
func shown(tree *node.Tree, err error) string {
	if err != nil {
		s := err.(api.Spot)
		if tree != nil {
			return "a tree beside an error"
		}
		return fmt.Sprintf("%d@%d", s.Err, s.At)
	}
	b, _ := canon.Bytes(tree)
	return string(b)
}

// all is what All tells.
func all(t testing.TB, b []byte, depth int) []string {
	t.Helper()
	each, err := seq.All(b, depth)
	if err != nil {
		t.Fatalf("All: %v", err)
	}
	var l []string
	for tree, err := range each {
		l = append(l, shown(tree, err))
	}
	return l
}

func TestAllExamples(t *testing.T) {
	for s, want := range map[string][]string{
		`S1NS"a"N`: {"1", `"a"`}, "S1NS2": {"1", "261@5"}, "S[1S2N": {"261@3", "2"}, "xS1N": {"260@0", "1"}, "SSS1N": {"1"}, "": nil, "x": {"260@0"}, "S": nil, "N": {"260@0"}, "1N": {"260@0"}, "SN": {"95@2"}, "S N": {"95@3"}, "S1N2N": {"120@3"}, "S[1]N \t": {"261@7"}, "S1NNS2N": {"1", "2"}, "S1 N": {"1"}, "S\"N\"N": {"91@2"}, "S{\"a\":1,\"a\":2}N": {"101@8"}, "S1e999N": {"41@1"}, "SxNSyNS1N": {"120@1", "120@4", "1"}, "S\xFFN": {"120@1"}, "SNSNS": {"95@2", "95@4"}, "xNSySS": {"260@0", "261@4"},
	} {
		if got := all(t, row(s), 4); !slices.Equal(got, want) {
			t.Errorf("All(%s): %q, want %q", s, got, want)
		}
	}
	if got := all(t, row("S[[1]]NS[1]NS1N"), 1); !slices.Equal(got, []string{"121@2", "121@9", "1"}) {
		t.Errorf("All at the depth 1: %q", got)
	}
	for _, depth := range []int{0, -1, 513, math.MaxInt, math.MinInt} {
		each, err := seq.All(row("S1N"), depth)
		r, err2 := seq.New(depth)
		if each != nil || err != api.ErrArg || r != nil || err2 != api.ErrArg {
			t.Errorf("the depth %d: %v, %v", depth, err, err2)
		}
	}
}

func TestReaderExample(t *testing.T) {
	r, err := seq.New(4)
	if err != nil {
		t.Fatal(err)
	}
	next := func(want string) {
		t.Helper()
		tree, err, ok := r.Next()
		if ok != (want != "") || ok && shown(tree, err) != want || !ok && (tree != nil || err != nil) {
			t.Errorf("Next: %v, %v, want %s", tree, err, want)
		}
	}
	feed := func(s string, want error) {
		t.Helper()
		if err := r.Feed(row(s)); err != want {
			t.Errorf("Feed(%s): %v", s, err)
		}
	}
	next("")
	feed("S1", nil)
	next("")
	feed("N", nil)
	next("")
	feed("S", nil)
	if r.Waiting() != 1 || r.Place() != 4 {
		t.Errorf("Waiting %d, Place %d", r.Waiting(), r.Place())
	}
	next("1")
	next("")
	feed("2NSSx", nil)
	feed("", nil)
	next("2")
	next("")
	if r.End() != nil || r.End() != api.ErrClosed || r.Waiting() != 1 || r.Place() != 9 {
		t.Errorf("End: Waiting %d, Place %d", r.Waiting(), r.Place())
	}
	feed("S", api.ErrClosed)
	feed("", api.ErrClosed)
	next("261@9")
	next("")
	var none *seq.Reader
	if tree, err, ok := none.Next(); tree != nil || err != nil || ok || none.Feed(nil) != api.ErrNil || none.End() != api.ErrNil || none.Waiting() != 0 || none.Place() != 0 {
		t.Error("calls of nil")
	}
	empty, _ := seq.New(1)
	if empty.End() != nil || empty.Waiting() != 0 {
		t.Error("a row without bytes")
	}
}

// random is nearly a row of records.
func random(r *rand.Rand) []byte {
	pieces := []string{"S", "S", "S", "N", "N", "1", `"a"`, "[", "]", `{"a":`, "}", "x", " ", "null", "\xFF"}
	var b strings.Builder
	for range r.Intn(12) {
		if r.Intn(3) == 0 {
			b.WriteString([]string{"S1N", "S[null]N", `S{"a":1}N`}[r.Intn(3)])
		}
		b.WriteString(pieces[r.Intn(len(pieces))])
	}
	return row(b.String())
}

// records are what All must tell, by the words of the document.
func records(b []byte, depth int) []string {
	var l []string
	place := 0
	for i, part := range bytes.Split(b, []byte{0x1e}) {
		switch {
		case len(part) == 0:
		case i == 0:
			l = append(l, "260@0")
		case part[len(part)-1] != '\n':
			l = append(l, fmt.Sprintf("261@%d", place+len(part)))
		default:
			tree, err := parse.Read(part, depth)
			if err != nil {
				s := err.(api.Spot)
				err = api.Spot{Err: s.Err, At: s.At + place}
			}
			l = append(l, shown(tree, err))
		}
		place += len(part) + 1
	}
	return l
}

func TestInPieces(t *testing.T) {
	r := rand.New(rand.NewSource(1))
	for range 20000 {
		b := random(r)
		depth := 1 + r.Intn(3)
		want := records(b, depth)
		if got := all(t, b, depth); !slices.Equal(got, want) {
			t.Fatalf("All(%q): %q, want %q", b, got, want)
		}
		reader, _ := seq.New(depth)
		var got []string
		ask := func() {
			for n := reader.Waiting(); n >= 0; n-- {
				tree, err, ok := reader.Next()
				if ok != (n > 0) {
					t.Fatalf("%q: Next beside %d waiting: %v", b, n, ok)
				}
				if ok {
					got = append(got, shown(tree, err))
				}
			}
		}
		for done := 0; done < len(b); {
			n := 1 + r.Intn(len(b)-done)
			if err := reader.Feed(b[done : done+n]); err != nil {
				t.Fatal(err)
			}
			done += n
			if reader.Place() != done {
				t.Fatalf("%q: Place %d", b, reader.Place())
			}
			if r.Intn(2) == 0 {
				ask()
			}
		}
		reader.End()
		ask()
		if !slices.Equal(got, want) {
			t.Fatalf("%q in pieces: %q, want %q", b, got, want)
		}
	}
}

func TestPut(t *testing.T) {
	b, err := seq.Put(read(t, " null "), read(t, "[1.0]"))
	if err != nil || !bytes.Equal(b, row("SnullNS[1]N")) {
		t.Errorf("Put: %q, %v", b, err)
	}
	if b, err := seq.Put(); len(b) != 0 || err != nil {
		t.Errorf("Put of nothing: %q, %v", b, err)
	}
	one := read(t, "1")
	many := slices.Repeat([]*node.Tree{one}, api.MaxSteps)
	if b, err := seq.Put(many...); len(b) != 3*api.MaxSteps || err != nil {
		t.Errorf("Put of many: %v", err)
	}
	for i, c := range []struct {
		l    []*node.Tree
		want error
	}{{append(many, one), api.ErrLong}, {append(many, nil), api.ErrLong}, {[]*node.Tree{one, nil, nil}, api.Spot{Err: api.ErrNil, At: 1}}, {[]*node.Tree{nil}, api.Spot{Err: api.ErrNil}}} {
		if b, err := seq.Put(c.l...); b != nil || err != c.want {
			t.Errorf("case %d: %v", i, err)
		}
	}
}

// TestThereAndBack: P26.7 and P26.8.
func TestThereAndBack(t *testing.T) {
	r := rand.New(rand.NewSource(2))
	docs := []string{"null", "1", `{"a":[1,{"b":"\n"}]}`, `"\u001e"`, "[]", strings.Repeat("[", 512) + strings.Repeat("]", 512)}
	for range 500 {
		var trees []*node.Tree
		var want []string
		for range r.Intn(6) {
			s := docs[r.Intn(len(docs))]
			trees, want = append(trees, read(t, s)), append(want, s)
		}
		b, err := seq.Put(trees...)
		if err != nil || !slices.Equal(all(t, b, api.MaxDepth), want) {
			t.Fatalf("All of Put: %q, %v", all(t, b, api.MaxDepth), err)
		}
		first, second := random(r), append(row("S"), random(r)...)
		got := all(t, append(bytes.Clone(first), second...), 3)
		var moved []string
		for _, s := range all(t, second, 3) {
			if no, at, ok := strings.Cut(s, "@"); ok {
				var n int
				fmt.Sscan(at, &n)
				s = fmt.Sprintf("%s@%d", no, n+len(first))
			}
			moved = append(moved, s)
		}
		if !slices.Equal(got, append(all(t, first, 3), moved...)) {
			t.Fatalf("All of %q and %q: %q", first, second, got)
		}
	}
	if got := all(t, row("S1NSbrokenS3N"), 3); !slices.Equal(got, []string{"1", "261@10", "3"}) {
		t.Errorf("All: %q", got)
	}
}

func TestMaxInput(t *testing.T) {
	blank := bytes.Repeat([]byte{' '}, api.MaxInput+1)
	b := append(append(row("S"), blank[:api.MaxInput-2]...), row("1NS2N")...)
	if got := all(t, b, 1); !slices.Equal(got, []string{"1", "2"}) {
		t.Errorf("as long as may be: %q", got)
	}
	b = append(append(row("S1NS"), blank[:api.MaxInput-1]...), row("1NS2N")...)
	if got := all(t, b, 1); !slices.Equal(got, []string{"1", fmt.Sprintf("3@%d", 4+api.MaxInput), "2"}) {
		t.Errorf("too long: %q", got)
	}
	b = append(append(row("S"), blank...), row("S2N")...)
	if got := all(t, b, 1); !slices.Equal(got, []string{fmt.Sprintf("3@%d", 1+api.MaxInput), "2"}) {
		t.Errorf("too long, and cut: %q", got)
	}
	b = append(bytes.Clone(blank), row("S2N")...)
	if got := all(t, b, 1); !slices.Equal(got, []string{"260@0", "2"}) {
		t.Errorf("long ahead of the first sign: %q", got)
	}
}

func TestMemory(t *testing.T) {
	b := row(`S"ab"NS"cd"N`)
	each, _ := seq.All(b, 1)
	r, _ := seq.New(1)
	r.Feed(b[:9])
	for i := range b {
		b[i] = 'x'
	}
	r.Feed(row(`d"N`))
	r.End()
	for _, want := range []string{`"ab"`, `"cd"`} {
		if tree, err, ok := r.Next(); !ok || shown(tree, err) != want {
			t.Errorf("what was fed is shared: %v, %v", err, ok)
		}
	}
	for range 2 { // gone over again, and left early
		for tree, err := range each {
			if shown(tree, err) != `"ab"` {
				t.Errorf("what was handed in is kept: %v", err)
			}
			break
		}
	}
}
