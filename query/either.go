package query

import (
	"affidavit/api"
	"affidavit/node"
	"affidavit/order"
)

// so tells whether something is so of a value that is looked at, within a whole.
type so func(at, whole node.Ref) bool

// side is a way, or a literal: its one form, and what it leads to.
type side struct {
	text string
	to   func(at, whole node.Ref) node.Ref
}

// How loosely a test holds together.
const (
	aPlain = iota
	severalPlains
	severalBoths
)

// test is an either, a both, a plain: its one form, and what it tells.
type test struct {
	text  string
	loose int
	so    so
}

// wrapped is the test's one form, in parentheses, if it is as loose as that or looser.
func (t test) wrapped(loose int) string {
	if t.loose < loose {
		return t.text
	}
	return "(" + t.text + ")"
}

// either reads an either.
func (r *reader) either() test {
	l := r.row("||", r.both)
	if len(l) == 1 {
		return l[0]
	}
	return test{join(l, " || ", severalBoths+1), severalBoths, func(at, whole node.Ref) bool {
		for _, t := range l {
			if t.so(at, whole) {
				return true
			}
		}
		return false
	}}
}

// both reads a both.
func (r *reader) both() test {
	l := r.row("&&", r.plain)
	if len(l) == 1 {
		return l[0]
	}
	return test{join(l, " && ", severalBoths), severalPlains, func(at, whole node.Ref) bool {
		for _, t := range l {
			if !t.so(at, whole) {
				return false
			}
		}
		return true
	}}
}

// row reads tests with a sign between.
func (r *reader) row(sign string, read func() test) []test {
	l := []test{read()}
	for r.token.is(sign) {
		r.step()
		l = append(l, read())
	}
	return l
}

// plain reads a plain.
func (r *reader) plain() test {
	switch {
	case r.token.is("!"):
		r.enter()
		t := r.plain()
		r.nest--
		return test{"!" + t.wrapped(severalPlains), aPlain, func(at, whole node.Ref) bool { return !t.so(at, whole) }}
	case r.token.is("("):
		r.enter()
		t := r.either()
		r.sign(")")
		r.nest--
		return t
	}
	left := r.way()
	holds := comparison(r.token)
	if holds == nil {
		return test{left.text, aPlain, func(at, whole node.Ref) bool { return left.to(at, whole).Sort() != 0 }}
	}
	sign := r.token.word
	r.step()
	right := r.right()
	return test{left.text + " " + sign + " " + right.text, aPlain, func(at, whole node.Ref) bool {
		return holds(left.to(at, whole), right.to(at, whole))
	}}
}

// enter takes a parenthesis or a ! that opens.
func (r *reader) enter() {
	if r.nest == api.MaxNest {
		fail(api.ErrLong, r.token.at)
	}
	r.nest++
	r.step()
}

// comparison is what a sign between two sides tells of what they lead to; nil, if the token is none such.
func comparison(t token) func(a, b node.Ref) bool {
	if t.kind != aSign {
		return nil
	}
	switch t.word {
	case "==":
		return node.Ref.Same
	case "!=":
		return func(a, b node.Ref) bool { return !a.Same(b) }
	case "<":
		return less
	case "<=":
		return func(a, b node.Ref) bool { return less(a, b) || a.Same(b) }
	case ">":
		return func(a, b node.Ref) bool { return less(b, a) }
	case ">=":
		return func(a, b node.Ref) bool { return less(b, a) || a.Same(b) }
	}
	return nil
}

// less tells whether both are numbers, or both texts, and the first one stands ahead.
func less(a, b node.Ref) bool {
	comparable := a.Sort() == api.SortNumber || a.Sort() == api.SortText
	return comparable && a.Sort() == b.Sort() && order.Compare(a, b) < 0
}
