package node

import (
	"math"

	"affidavit/api"
)

// Maker makes values, one behind the other.
type Maker struct{ row }

// New is a maker whose row has no value.
func New() *Maker { return &Maker{} }

// put puts a value that takes none off the row.
func (m *Maker) put(s api.Step) error {
	if m != nil && len(m.values) >= api.MaxSteps {
		return api.ErrLong
	}
	return m.step(s)
}

// step does a step.
func (m *Maker) step(s api.Step) error {
	if m == nil {
		return api.ErrNil
	}
	if no := m.try(s); no != api.OK {
		return no
	}
	return nil
}

// Null puts null.
func (m *Maker) Null() error { return m.put(api.Step{Sort: api.SortNull}) }

// Flag puts a flag.
func (m *Maker) Flag(b bool) error { return m.put(api.Step{Sort: api.SortFlag, Flag: b}) }

// Number puts a number.
func (m *Maker) Number(x float64) error {
	return m.put(api.Step{Sort: api.SortNumber, Bits: math.Float64bits(x)})
}

// Text puts a text.
func (m *Maker) Text(s string) error { return m.put(api.Step{Sort: api.SortText, Text: s}) }

// List puts the list of the last n values in their place.
func (m *Maker) List(n int) error { return m.step(api.Step{Sort: api.SortList, Count: n}) }

// Object puts the object that has the last values under these keys in their place.
func (m *Maker) Object(keys ...string) error {
	return m.step(api.Step{Sort: api.SortObject, Keys: keys})
}

// Copy puts a value of a tree.
func (m *Maker) Copy(r Ref) error {
	switch {
	case m == nil:
		return api.ErrNil
	case r.v == nil:
		return api.ErrNone
	case len(m.values) >= api.MaxSteps:
		return api.ErrLong
	}
	m.values = append(m.values, r.v)
	return nil
}

// Drop takes the last value away.
func (m *Maker) Drop() error {
	switch {
	case m == nil:
		return api.ErrNil
	case len(m.values) == 0:
		return api.ErrFew
	}
	m.values = m.values[:len(m.values)-1]
	return nil
}

// Len is how many values the row has.
func (m *Maker) Len() int {
	if m == nil {
		return 0
	}
	return len(m.values)
}

// Top is the last value as it is told.
func (m *Maker) Top() api.Value {
	if m.Len() == 0 {
		return nil
	}
	return told(m.values[len(m.values)-1])
}

// Tree is a tree of the one value that there is.
func (m *Maker) Tree() (*Tree, error) {
	switch {
	case m == nil:
		return nil, api.ErrNil
	case len(m.values) != 1:
		return nil, api.ErrOne
	}
	return &Tree{m.values[0]}, nil
}
