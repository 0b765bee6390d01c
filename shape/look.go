package shape

import (
	"iter"
	"math"
	"slices"
	"strings"

	"affidavit/api"
	"affidavit/node"
	"affidavit/order"
	"affidavit/utf"
)

// item is a value that is looked at, and where it stands.
type item struct {
	place
	ref    node.Ref
	within []*item
}

// inside are the values straight within it, an object's by rising keys.
func (i *item) inside() []*item {
	if len(i.within) == i.ref.Len() {
		return i.within
	}
	for key, r := range i.ref.All() {
		at := place{&i.place, key}
		if i.ref.Sort() == api.SortList {
			at = *below(&i.place, len(i.within))
		}
		i.within = append(i.within, &item{place: at, ref: r})
	}
	return i.within
}

// pair is a value, and a shape of which it was asked.
type pair struct {
	value *item
	shape *rule
}

// What was found of a pair.
const (
	hasIt = 1 + iota
	hasNot
)

// looker looks whether values have shapes.
type looker struct{ found map[pair]int }

// has tells whether a value has a shape.
func (l looker) has(i *item, s *rule) bool {
	if s.never || !s.deep {
		return !s.never && l.holdAll(i, s)
	}
	p := pair{i, s}
	if l.found[p] == 0 {
		l.found[p] = hasNot
		if l.holdAll(i, s) {
			l.found[p] = hasIt
		}
	}
	return l.found[p] == hasIt
}

// holdAll tells whether all words of a shape hold of a value.
func (l looker) holdAll(i *item, s *rule) bool {
	for _, w := range s.words {
		if !l.holds(i, w) {
			return false
		}
	}
	return true
}

// holds tells whether a word holds of a value.
func (l looker) holds(i *item, w word) bool {
	switch x := w.(type) {
	case bound:
		n, ok := i.ref.Number()
		return !ok || within(x, n)
	case chars:
		s, ok := i.ref.Text()
		return !ok || hasChars(x, s)
	case count:
		return holdsCount(x, i.ref)
	case unique:
		return isUnique(i.ref)
	case sorts:
		return slices.ContainsFunc(x.names, func(name string) bool { return sortIs(i.ref, name) })
	case among:
		return slices.ContainsFunc(x.values, i.ref.Same)
	case need:
		return len(missing(x, i.ref)) == 0
	case keys:
		return len(l.wrongKeys(i, x)) == 0
	case some:
		return l.among(i, x.list) > 0
	case one:
		return l.among(i, x.list) == 1
	case not:
		return !l.has(i, x.shape)
	case contains:
		return i.ref.Sort() != api.SortList || slices.ContainsFunc(i.inside(), func(v *item) bool { return l.has(v, x.shape) })
	}
	for v, s := range l.asked(i, w) {
		if !l.has(v, s) {
			return false
		}
	}
	return true
}

// among is how many of some shapes a value has; behind the second one it is not counted on.
func (l looker) among(i *item, shapes []*rule) int {
	n := 0
	for _, s := range shapes {
		if n < 2 && l.has(i, s) {
			n++
		}
	}
	return n
}

// asked are the values of which a word asks shapes, each with its shape, where it asks that they have all of these.
func (l looker) asked(i *item, w word) iter.Seq2[*item, *rule] {
	return func(yield func(*item, *rule) bool) {
		switch x := w.(type) {
		case every:
			for _, s := range x.list {
				if !yield(i, s) {
					return
				}
			}
		case *use:
			yield(i, x.shape)
		case choice:
			if s := l.chosen(i, x); s != nil {
				yield(i, s)
			}
		default:
			l.askedWithin(i, w, yield)
		}
	}
}

// askedWithin are those that a word asks of the values within.
func (l looker) askedWithin(i *item, w word, yield func(*item, *rule) bool) {
	for k, v := range i.inside() {
		var s *rule
		list := i.ref.Sort() == api.SortList
		switch x := w.(type) {
		case first:
			if list && k < len(x.list) {
				s = x.list[k]
			}
		case items:
			if list && k >= x.from {
				s = x.shape
			}
		case members:
			if !list {
				s = x.shapes[v.token]
			}
		case others:
			if _, named := x.but.Find(v.token); !list && !named {
				s = x.shape
			}
		}
		if s != nil && !yield(v, s) {
			return
		}
	}
}

// chosen is the shape that is asked of a value by when; nil, if none is.
func (l looker) chosen(i *item, c choice) *rule {
	switch {
	case c.when == nil:
		return nil
	case l.has(i, c.when):
		return c.then
	}
	return c.other
}

// within tells whether a number is as a bound asks.
func within(b bound, x float64) bool {
	switch b.is {
	case "above":
		return x > b.than
	case "below":
		return x < b.than
	case "least":
		return x >= b.than
	case "most":
		return x <= b.than
	}
	return math.Mod(x, b.than) == 0
}

// hasChars tells whether a text has what is asked.
func hasChars(c chars, s string) bool {
	switch c.is {
	case "begins":
		return strings.HasPrefix(s, c.what)
	case "ends":
		return strings.HasSuffix(s, c.what)
	}
	return strings.Contains(s, c.what)
}

// holdsCount tells whether a text is as long, a list or an object has as many values, as is asked.
func holdsCount(c count, r node.Ref) bool {
	n := r.Len()
	s, isText := r.Text()
	if isText {
		n, _, _ = utf.Count(s)
	}
	group := r.Sort() >= api.SortList
	switch c.is {
	case "long":
		return !isText || float64(n) <= c.than
	case "short":
		return !isText || float64(n) >= c.than
	case "many":
		return !group || float64(n) <= c.than
	}
	return !group || float64(n) >= c.than
}

// isUnique tells whether no two values of a list are the same.
func isUnique(r node.Ref) bool {
	if r.Sort() != api.SortList {
		return true
	}
	l := make([]node.Ref, 0, r.Len())
	for _, v := range r.All() {
		l = append(l, v)
	}
	once, _ := order.Unique(l)
	return len(once) == len(l)
}

// sortIs tells whether a value is of the sort of that name.
func sortIs(r node.Ref, name string) bool {
	if name == "whole" {
		x, ok := r.Number()
		return ok && x == math.Trunc(x)
	}
	names := [...]string{api.SortNull: "null", api.SortFlag: "flag", api.SortNumber: "number", api.SortText: "text", api.SortList: "list", api.SortObject: "object"}
	return names[r.Sort()] == name
}

// missing are the keys that are needed and are not there.
func missing(n need, r node.Ref) []string {
	if r.Sort() != api.SortObject {
		return nil
	}
	var l []string
	for _, key := range n.keys {
		if _, ok := r.Find(key); !ok {
			l = append(l, key)
		}
	}
	return l
}

// wrongKeys are the members whose keys, as texts, have not the shape.
func (l looker) wrongKeys(i *item, k keys) []*item {
	if i.ref.Sort() != api.SortObject {
		return nil
	}
	var wrong []*item
	for _, v := range i.inside() {
		m := node.New()
		_ = m.Text(v.token)
		t, _ := m.Tree()
		if !l.has(whole(t), k.shape) {
			wrong = append(wrong, v)
		}
	}
	return wrong
}
