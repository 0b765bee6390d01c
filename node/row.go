package node

import (
	"math"
	"slices"

	"affidavit/api"
	"affidavit/utf"
)

// row is the values to which steps are done.
type row struct{ values []value }

// try does a step; if it may not be done it tells why, and the row stays as it is.
func (r *row) try(s api.Step) (no api.Errno) {
	defer func() {
		if p := recover(); p != nil {
			no = p.(api.Errno)
		}
	}()
	r.do(s)
	return api.OK
}

// do does a step, or panics with the number of what is wrong.
func (r *row) do(s api.Step) {
	need(onlyUsed(s), api.ErrArg)
	taken, v := 0, value(null{})
	switch s.Sort {
	case api.SortFlag:
		v = flag(s.Flag)
	case api.SortNumber:
		v = toNumber(s.Bits)
	case api.SortText:
		need(utf.Right(s.Text), api.ErrText)
		v = text(s.Text)
	case api.SortList:
		taken = s.Count
		items := r.last(taken)
		v = &list{items, around(items, nil)}
	case api.SortObject:
		taken = len(s.Keys)
		v = r.object(s.Keys)
	}
	need(v.size().within(), api.ErrLong)
	r.values = append(r.values[:len(r.values)-taken], v)
}

// need panics with the number, unless all is well.
func need(well bool, no api.Errno) {
	if !well {
		panic(no)
	}
}

// onlyUsed tells whether a step has a sort, no count below 0, and nothing that its sort does not use.
func onlyUsed(s api.Step) bool {
	switch s.Sort {
	case api.SortNull:
	case api.SortFlag:
		s.Flag = false
	case api.SortNumber:
		s.Bits = 0
	case api.SortText:
		s.Text = ""
	case api.SortList:
		s.Count = min(s.Count, 0)
	case api.SortObject:
		s.Keys = nil
	default:
		return false
	}
	return !s.Flag && s.Bits == 0 && s.Text == "" && s.Count == 0 && len(s.Keys) == 0
}

// toNumber is the number of a float's bits.
func toNumber(bits uint64) number {
	x := math.Float64frombits(bits)
	need(!math.IsNaN(x) && !math.IsInf(x, 0), api.ErrFloat)
	if x == 0 { // of either sign
		return 0
	}
	return number(x)
}

// last are the last n values of the row, in new memory.
func (r *row) last(n int) []value {
	need(n <= len(r.values), api.ErrFew)
	return slices.Clone(r.values[len(r.values)-n:])
}

// object is an object with the keys, of which the first one has the first of the row's last values, and so on.
func (r *row) object(keys []string) *object {
	for _, k := range keys {
		need(utf.Right(k), api.ErrText)
	}
	places := make([]int, len(keys))
	for i := range places {
		places[i] = i
	}
	byKey := func(i, j int) int { return utf.Compare(keys[i], keys[j]) }
	if !slices.IsSortedFunc(places, byKey) {
		slices.SortFunc(places, byKey)
	}
	o := &object{keys: make([]string, len(keys)), values: make([]value, len(keys))}
	for i, place := range places {
		o.keys[i] = keys[place]
		need(i == 0 || o.keys[i] != o.keys[i-1], api.ErrTwice)
	}
	values := r.last(len(keys))
	for i, place := range places {
		o.values[i] = values[place]
	}
	o.whole = around(o.values, o.keys)
	return o
}
