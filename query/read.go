package query

import (
	"strconv"
	"strings"

	"affidavit/api"
	"affidavit/canon"
	"affidavit/dec"
	"affidavit/node"
)

// reader reads a question. Whatever is wrong with a token is found ahead of the next one.
type reader struct {
	text  string
	token token
	end   int // the place behind the token
	parts int
	nest  int
}

// step goes on to the next token.
func (r *reader) step() { r.token, r.end = scan(r.text, r.end) }

// need gives up at the token, unless it can stand there.
func (r *reader) need(well bool) {
	if !well {
		fail(api.ErrQuery, r.token.at)
	}
}

// part counts a part that begins with the token.
func (r *reader) part() {
	if r.parts++; r.parts > api.MaxParts {
		fail(api.ErrLong, r.token.at)
	}
}

// sign takes a sign that must stand there.
func (r *reader) sign(sign string) {
	r.need(r.token.is(sign))
	r.step()
}

// question reads all of it.
func (r *reader) question() []segment {
	r.step()
	r.sign("$")
	var l []segment
	for r.token.kind != theEnd {
		l = append(l, r.segment())
	}
	return l
}

// segment reads a segment.
func (r *reader) segment() segment {
	s := segment{deep: r.token.is("..")}
	r.need(s.deep || r.token.is(".") || r.token.is("["))
	r.part()
	if !r.token.is("[") {
		r.step()
		if !s.deep || !r.token.is("[") {
			s.picks = append(s.picks, r.member())
			return s
		}
	}
	for more := true; more; more = r.token.is(",") {
		r.step()
		s.picks = append(s.picks, r.pick())
	}
	r.sign("]")
	return s
}

// member reads a name or a star behind a point.
func (r *reader) member() picker {
	r.need(r.token.kind == aName || r.token.is("*"))
	r.part()
	p := picker{Pick: api.PickAll{}}
	if r.token.kind == aName {
		p.Pick = key(r.token.word)
	}
	r.step()
	return p
}

// key is the pick of a key.
func key(k string) api.PickKey {
	quoted, _ := canon.Quote(k) // what a token says is a right text
	return api.PickKey{Key: k, Quoted: quoted}
}

// pick reads a pick within brackets.
func (r *reader) pick() picker {
	t := r.token
	r.need(t.kind == aText || t.kind == aNumber || t.is("*") || t.is(":") || t.is("?"))
	r.part()
	switch {
	case t.kind == aText:
		r.step()
		return picker{Pick: key(t.word)}
	case t.is("*"):
		r.step()
		return picker{Pick: api.PickAll{}}
	case t.is("?"):
		r.step()
		e := r.either()
		return picker{api.PickIf{Text: e.text}, e.so}
	}
	from := r.maybe()
	if !r.token.is(":") {
		return picker{Pick: api.PickItem{At: from.N}}
	}
	s := api.PickSlice{From: from}
	r.step()
	s.To = r.maybe()
	if r.token.is(":") {
		r.step()
		s.By = r.maybe()
	}
	if s.By.N == 1 {
		s.By = api.Maybe{}
	}
	return picker{Pick: s}
}

// maybe reads a place number, if a number stands there.
func (r *reader) maybe() api.Maybe {
	if r.token.kind != aNumber {
		return api.Maybe{}
	}
	return api.Maybe{Told: true, N: r.ordinal()}
}

// ordinal reads a number that must be a place number.
func (r *reader) ordinal() int {
	word := r.token.word
	n, err := strconv.Atoi(word)
	if err != nil || strconv.Itoa(n) != word || n > api.MaxTime || n < -api.MaxTime {
		fail(api.ErrOrdinal, r.token.at)
	}
	r.step()
	return n
}

// way reads a way.
func (r *reader) way() side {
	r.need(r.token.is("@") || r.token.is("$"))
	r.part()
	whole := r.token.is("$")
	text := r.token.word
	var steps []picker
	for r.step(); r.token.is(".") || r.token.is("["); {
		r.part()
		steps = append(steps, r.wayStep())
	}
	for _, s := range steps {
		text += "[" + s.Picks() + "]"
	}
	return side{text, func(at, all node.Ref) node.Ref {
		if whole {
			at = all
		}
		for _, s := range steps {
			at = s.one(at)
		}
		return at
	}}
}

// wayStep reads a step of a way.
func (r *reader) wayStep() picker {
	if r.token.is(".") {
		r.step()
		r.need(r.token.kind == aName)
		return r.keyStep()
	}
	r.step()
	r.need(r.token.kind == aText || r.token.kind == aNumber)
	var p picker
	if r.token.kind == aText {
		p = r.keyStep()
	} else {
		p = picker{Pick: api.PickItem{At: r.ordinal()}}
	}
	r.sign("]")
	return p
}

// keyStep takes the token as a key.
func (r *reader) keyStep() picker {
	p := picker{Pick: key(r.token.word)}
	r.step()
	return p
}

// right reads what stands behind a sign between two sides.
func (r *reader) right() side {
	t := r.token
	if t.is("@") || t.is("$") {
		return r.way()
	}
	m := node.New()
	switch {
	case t.kind == aText:
		_ = m.Text(t.word)
	case t.kind == aNumber:
		x, _ := dec.Float(t.word)
		_ = m.Number(x)
	case t.kind == aName && t.word == "null":
		_ = m.Null()
	default:
		r.need(t.kind == aName && (t.word == "true" || t.word == "false"))
		_ = m.Flag(t.word == "true")
	}
	r.part()
	r.step()
	tree, _ := m.Tree()
	text, _ := canon.Part(tree.Root())
	return side{text, func(_, _ node.Ref) node.Ref { return tree.Root() }}
}

// join are texts with another one between.
func join(l []test, between string, wrap int) string {
	var texts []string
	for _, t := range l {
		texts = append(texts, t.wrapped(wrap))
	}
	return strings.Join(texts, between)
}
