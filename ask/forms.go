package ask

import "affidavit/api"

// A form is how what is told is asked whether it is of one type.
type form func(v api.Value) api.Heard

// forms are the forms for the type T, each at its number's place.
func forms[T api.Value]() []form {
	return []form{
		api.FormTwo:    two[T],
		api.FormOne:    one[T],
		api.FormSwitch: switched[T],
		api.FormCall:   called[T],
	}
}

// formsOf are the forms for a want's type; none of what is no want.
func formsOf(want int) []form {
	switch want {
	case api.WantValue:
		return forms[api.Value]()
	case api.WantScalar:
		return forms[api.Scalar]()
	case api.WantGroup:
		return forms[api.Group]()
	case api.WantKeyed:
		return forms[api.Keyed]()
	case api.WantNull:
		return forms[api.Null]()
	case api.WantFlag:
		return forms[api.Flag]()
	case api.WantNumber:
		return forms[api.Number]()
	case api.WantText:
		return forms[api.Text]()
	case api.WantList:
		return forms[api.List]()
	case api.WantObject:
		return forms[api.Object]()
	case api.WantLost:
		return forms[*api.Lost]()
	}
	return nil
}

// formOf is a want's form; nil, if one of both is none.
func formOf(want, number int) form {
	l := formsOf(want)
	if number <= 0 || number >= len(l) {
		return nil
	}
	return l[number]
}

// two asks by an assertion with two results.
func two[T api.Value](v api.Value) api.Heard {
	if x, ok := v.(T); ok {
		return heard(x)
	}
	return api.Heard{}
}

// one asks by an assertion with one result.
func one[T api.Value](v api.Value) (h api.Heard) {
	defer func() {
		if recover() != nil {
			h = api.Heard{Panicked: true}
		}
	}()
	return heard(v.(T))
}

// switched asks by a type switch with one case.
func switched[T api.Value](v api.Value) api.Heard {
	switch x := v.(type) {
	case T:
		return heard(x)
	}
	return api.Heard{}
}

// called asks by an assertion with one result, and a call of what it answers.
func called[T api.Value](v api.Value) (h api.Heard) {
	defer func() {
		if recover() != nil {
			h = api.Heard{Panicked: true}
		}
	}()
	sort := v.(T).Sort()
	h = heard(v)
	h.Sort = sort
	return h
}

// heard is what is heard of what holds.
func heard(v api.Value) api.Heard {
	l, lost := v.(*api.Lost)
	return api.Heard{OK: true, Sort: v.Sort(), Nil: lost && l == nil}
}

// equal asks by ==; lists and objects panic.
func equal(v, w api.Value) (h api.Heard) {
	defer func() {
		if recover() != nil {
			h = api.Heard{Panicked: true}
		}
	}()
	return api.Heard{OK: v == w}
}
