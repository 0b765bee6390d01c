package keys_test

import (
	"slices"
	"testing"

	"affidavit/api"
	"affidavit/keys"
	"affidavit/node"
	"affidavit/parse"
)

func TestUnion(t *testing.T) {
	ref := func(s string) node.Ref {
		tree, err := parse.Read([]byte(s), api.MaxDepth)
		if err != nil {
			t.Fatal(err)
		}
		return tree.Root()
	}
	a, b, c := ref(`{"a":1,"c":2,"\uff61":3}`), ref(`{"b":1,"c":3,"😀":4}`), ref(`{"":1,"z":2}`)
	for i, l := range []struct {
		objects []node.Ref
		want    []string
	}{
		{nil, nil}, {[]node.Ref{a}, []string{"a", "c", "\uff61"}}, {[]node.Ref{a, b}, []string{"a", "b", "c", "😀", "\uff61"}}, {[]node.Ref{b, a}, []string{"a", "b", "c", "😀", "\uff61"}}, {[]node.Ref{a, b, c, a}, []string{"", "a", "b", "c", "z", "😀", "\uff61"}}, {[]node.Ref{{}, ref("[1,2]"), ref("1"), c, ref("{}")}, []string{"", "z"}},
	} {
		if got := keys.Union(l.objects...); !slices.Equal(got, l.want) {
			t.Errorf("case %d: %q", i, got)
		}
	}
}

func TestSortedAndAhead(t *testing.T) {
	l := []string{"\uff61", "b", "", "😀", "a", "b"}
	if got := keys.Sorted(l); !slices.Equal(got, []string{"", "a", "b", "b", "😀", "\uff61"}) || l[0] != "\uff61" {
		t.Errorf("Sorted: %q", got)
	}
	if len(keys.Sorted(nil)) != 0 {
		t.Error("Sorted of nothing")
	}
	if !keys.Ahead("😀", "\uff61") || keys.Ahead("a", "a") || keys.Ahead("b", "a") || !keys.Ahead("a", "ab") {
		t.Error("Ahead")
	}
}
