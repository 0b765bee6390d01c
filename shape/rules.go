package shape

import (
	"affidavit/api"
	"affidavit/node"
)

// rule is a shape: what it asks, word by word; or, if it is never, that no value has it.
type rule struct {
	place *place
	at    int // which one it is, in the order of pointers
	never bool
	deep  bool // whether it has shapes within it, so that it is worth while to remember which values have it
	words []word
}

// A word is what one member of a shape asks: one of the types below.
type word interface {
	// fault is the number that is told of a value of which it does not hold; OK, if other faults are told.
	fault() api.Errno
}

// leading is a word that asks shapes of the same value.
type leading interface {
	word
	shapes() []*rule
}

// What is asked of values alone.
type (
	bound struct { // above, below, least, most, multiple
		is   string
		than float64
	}
	chars struct{ is, what string } // begins, ends, has
	count struct {                  // few, many, long, short
		is   string
		than float64
	}
	unique struct{}
	sorts  struct{ names []string }
	among  struct{ values []node.Ref }
	need   struct{ keys []string }
)

// What leads on to other shapes of the same value.
type (
	every struct{ list []*rule } // all
	some  struct{ list []*rule } // any
	one   struct{ list []*rule }
	not   struct{ shape *rule }
	use   struct {
		place *place
		name  string
		shape *rule
	}
	choice struct{ when, then, other *rule }
)

// What asks shapes of the values within.
type (
	first struct{ list []*rule }
	items struct {
		shape *rule
		from  int
	}
	contains struct{ shape *rule }
	keys     struct{ shape *rule }
	members  struct{ shapes map[string]*rule }
	others   struct {
		shape *rule
		but   node.Ref // the members that have shapes of their own
	}
)

func (bound) fault() api.Errno    { return api.ErrBound }
func (chars) fault() api.Errno    { return api.ErrLength }
func (unique) fault() api.Errno   { return api.ErrMany }
func (sorts) fault() api.Errno    { return api.ErrSorts }
func (among) fault() api.Errno    { return api.ErrIs }
func (need) fault() api.Errno     { return api.OK }
func (every) fault() api.Errno    { return api.OK }
func (some) fault() api.Errno     { return api.ErrMix }
func (one) fault() api.Errno      { return api.ErrMix }
func (not) fault() api.Errno      { return api.ErrMix }
func (*use) fault() api.Errno     { return api.OK }
func (choice) fault() api.Errno   { return api.OK }
func (first) fault() api.Errno    { return api.OK }
func (items) fault() api.Errno    { return api.OK }
func (contains) fault() api.Errno { return api.ErrMany }
func (keys) fault() api.Errno     { return api.OK }
func (members) fault() api.Errno  { return api.OK }
func (others) fault() api.Errno   { return api.OK }

func (c count) fault() api.Errno {
	if c.is == "long" || c.is == "short" {
		return api.ErrLength
	}
	return api.ErrMany
}

func (w every) shapes() []*rule { return w.list }
func (w some) shapes() []*rule  { return w.list }
func (w one) shapes() []*rule   { return w.list }
func (w not) shapes() []*rule   { return []*rule{w.shape} }
func (w *use) shapes() []*rule  { return []*rule{w.shape} }

func (w choice) shapes() []*rule {
	var there []*rule
	for _, s := range [3]*rule{w.when, w.then, w.other} {
		if s != nil {
			there = append(there, s)
		}
	}
	return there
}
