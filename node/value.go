package node

import (
	"math"
	"slices"

	"affidavit/api"
)

// value is a value within a tree: a null, flag, number, text, *list or *object. None ever changes.
type value interface {
	sort() api.Sort
	size() extent
}

// extent is how many values a value has, itself and all within it, how many bytes its keys and texts, and how deep it is.
type extent struct{ nodes, bytes, depth int }

type (
	null   struct{}
	flag   bool
	number float64
	text   string
)

// list is values in their order.
type list struct {
	items []value
	whole extent
}

// object is members by rising keys.
type object struct {
	keys   []string
	values []value
	whole  extent
}

func (null) sort() api.Sort    { return api.SortNull }
func (flag) sort() api.Sort    { return api.SortFlag }
func (number) sort() api.Sort  { return api.SortNumber }
func (text) sort() api.Sort    { return api.SortText }
func (*list) sort() api.Sort   { return api.SortList }
func (*object) sort() api.Sort { return api.SortObject }

func (null) size() extent      { return extent{1, 0, 1} }
func (flag) size() extent      { return extent{1, 0, 1} }
func (number) size() extent    { return extent{1, 0, 1} }
func (t text) size() extent    { return extent{1, len(t), 1} }
func (l *list) size() extent   { return l.whole }
func (o *object) size() extent { return o.whole }

// around is how great a list of such values, or an object with such keys besides, is.
func around(values []value, keys []string) extent {
	all := extent{nodes: 1}
	for _, v := range values {
		e := v.size()
		all.nodes += e.nodes
		all.bytes += e.bytes
		all.depth = max(all.depth, e.depth)
	}
	for _, k := range keys {
		all.bytes += len(k)
	}
	all.depth++
	return all
}

// within tells whether a value so great may stand in a tree.
func (e extent) within() bool {
	return e.nodes <= api.MaxNodes && e.bytes <= api.MaxBytes && e.depth <= api.MaxDepth
}

// told is a value as a Go value, in new memory.
func told(v value) api.Value {
	switch x := v.(type) {
	case null:
		return api.Null{}
	case flag:
		return api.Flag(x)
	case number:
		return api.Number(x)
	case text:
		return api.Text(x)
	case *list:
		l := make(api.List, len(x.items))
		for i, item := range x.items {
			l[i] = told(item)
		}
		return l
	case *object:
		o := make(api.Object, len(x.keys))
		for i, key := range x.keys {
			o[i] = api.Member{Key: key, Value: told(x.values[i])}
		}
		return o
	}
	return nil
}

// same tells whether two values are the same.
func same(a, b value) bool {
	if a == b { // values of one type without values within, or one list, one object
		return true
	}
	switch x := a.(type) {
	case *list:
		y, ok := b.(*list)
		return ok && x.whole == y.whole && slices.EqualFunc(x.items, y.items, same)
	case *object:
		y, ok := b.(*object)
		return ok && x.whole == y.whole && slices.Equal(x.keys, y.keys) && slices.EqualFunc(x.values, y.values, same)
	}
	return false
}

// step is the step that makes a value of those within it, or at once.
func step(v value) api.Step {
	s := api.Step{Sort: v.sort()}
	switch x := v.(type) {
	case flag:
		s.Flag = bool(x)
	case number:
		s.Bits = math.Float64bits(float64(x))
	case text:
		s.Text = string(x)
	case *list:
		s.Count = len(x.items)
	case *object:
		s.Keys = slices.Clone(x.keys)
	}
	return s
}
