package shape

import (
	"math"
	"strconv"

	"affidavit/api"
	"affidavit/node"
)

// greatest is the greatest count.
const greatest = 1 << 53

// reader reads a shape in the order of its pointers, so that what it finds first stands first.
type reader struct {
	shape *Shape
	rules []*rule
	uses  []*use
}

// must gives up at a place, unless what stands there is such as must stand there.
func must(well bool, p *place) {
	if !well {
		panic(api.Trail{Err: api.ErrShape, Pointer: p.pointer()})
	}
}

// rule reads a shape.
func (r *reader) rule(v node.Ref, p *place) *rule {
	s := &rule{place: p, at: len(r.rules)}
	r.rules = append(r.rules, s)
	yes, isFlag := v.Flag()
	must(isFlag || v.Sort() == api.SortObject, p)
	s.never = isFlag && !yes
	var c choice
	for key, inner := range v.All() {
		at := &place{p, key}
		switch key {
		case "else":
			c.other = r.rule(inner, at)
		case "then":
			c.then = r.rule(inner, at)
		case "when":
			c.when = r.rule(inner, at)
		default:
			s.add(r.word(key, inner, at, v))
		}
	}
	if len(c.shapes()) > 0 { // when stands behind all other words
		s.add(c)
	}
	return s
}

// add adds a word, if there is one.
func (s *rule) add(w word) {
	switch w.(type) {
	case nil:
		return
	case leading, first, items, contains, keys, members, others:
		s.deep = true
	}
	s.words = append(s.words, w)
}

// word reads what a member of a shape asks; nothing of what asks nothing.
func (r *reader) word(key string, v node.Ref, p *place, shape node.Ref) word {
	switch key {
	case "above", "below", "least", "most", "multiple":
		x, ok := v.Number()
		must(ok && (key != "multiple" || x > 0), p)
		return bound{key, x}
	case "few", "many", "long", "short":
		x, ok := v.Number()
		must(ok && x >= 0 && x <= greatest && x == math.Trunc(x), p)
		return count{key, x}
	case "begins", "ends", "has":
		return chars{key, text(v, p)}
	case "unique":
		yes, ok := v.Flag()
		if must(ok, p); yes {
			return unique{}
		}
		return nil
	case "is":
		return among{[]node.Ref{v}}
	case "among":
		return among{list(v, p)}
	case "need":
		return need{texts(v, p)}
	case "sort":
		return sorts{sortNames(v, p)}
	}
	return r.outer(key, v, p, shape)
}

// outer reads a word that has shapes within it.
func (r *reader) outer(key string, v node.Ref, p *place, shape node.Ref) word {
	switch key {
	case "all":
		return every{r.list(v, p)}
	case "any":
		return some{r.list(v, p)}
	case "one":
		return one{r.list(v, p)}
	case "not":
		return not{r.rule(v, p)}
	case "use":
		u := &use{place: p, name: text(v, p)}
		r.uses = append(r.uses, u)
		return u
	case "first":
		return first{r.list(v, p)}
	case "items":
		from, _ := shape.Find("first")
		return items{r.rule(v, p), from.Len()}
	case "contains":
		return contains{r.rule(v, p)}
	case "keys":
		return keys{r.rule(v, p)}
	case "members":
		m := members{map[string]*rule{}}
		r.named(v, p, m.shapes)
		return m
	case "others":
		but, _ := shape.Find("members")
		return others{r.rule(v, p), but}
	}
	must(key == "let" && p.up.up == nil, p)
	r.shape.names = r.named(v, p, r.shape.let)
	return nil
}

// list reads a list of shapes.
func (r *reader) list(v node.Ref, p *place) []*rule {
	var l []*rule
	for i, inner := range list(v, p) {
		l = append(l, r.rule(inner, below(p, i)))
	}
	return l
}

// named reads an object of shapes, and tells its keys.
func (r *reader) named(v node.Ref, p *place, shapes map[string]*rule) []string {
	must(v.Sort() == api.SortObject, p)
	var names []string
	for key, inner := range v.All() {
		shapes[key] = r.rule(inner, &place{p, key})
		names = append(names, key)
	}
	return names
}

// below is the place of a list's value.
func below(p *place, i int) *place { return &place{p, strconv.Itoa(i)} }

// list are the values of what must be a list.
func list(v node.Ref, p *place) []node.Ref {
	must(v.Sort() == api.SortList, p)
	l := make([]node.Ref, 0, v.Len())
	for _, inner := range v.All() {
		l = append(l, inner)
	}
	return l
}

// text is what must be a text.
func text(v node.Ref, p *place) string {
	s, ok := v.Text()
	must(ok, p)
	return s
}

// texts is what must be a list of texts.
func texts(v node.Ref, p *place) []string {
	var l []string
	for i, inner := range list(v, p) {
		l = append(l, text(inner, below(p, i)))
	}
	return l
}

// sortNames is what must be a sort's name, or a list of such.
func sortNames(v node.Ref, p *place) []string {
	if s, ok := v.Text(); ok {
		must(isSort(s), p)
		return []string{s}
	}
	var names []string
	for i, inner := range list(v, p) {
		at := below(p, i)
		s := text(inner, at)
		must(isSort(s), at)
		names = append(names, s)
	}
	return names
}

// isSort tells whether a text is a sort's name.
func isSort(s string) bool {
	switch s {
	case "null", "flag", "number", "whole", "text", "list", "object":
		return true
	}
	return false
}

// resolve finds the shapes that are used by their names.
func (r *reader) resolve() {
	for _, u := range r.uses {
		if u.shape = r.shape.let[u.name]; u.shape == nil {
			panic(api.Trail{Err: api.ErrName, Pointer: u.place.pointer()})
		}
	}
}

// refuseLoops gives up at the first shape that stands in a loop.
func (r *reader) refuseLoops() {
	l := looper{came: make([]int, len(r.rules)), back: make([]int, len(r.rules)), looped: make([]bool, len(r.rules))}
	for _, s := range r.rules {
		l.visit(s)
	}
	for _, s := range r.rules {
		if l.looped[s.at] {
			panic(api.Trail{Err: api.ErrLoop, Pointer: s.place.pointer()})
		}
	}
}

// looper looks for shapes that lead back to themselves (Tarjan's way). Of each shape it knows when it came there, and how early it came to the first one to which that leads.
type looper struct {
	came, back []int // 0: not yet
	looped     []bool
	pile       []*rule // those that may yet be found to lead back
	clock      int
}

// out is what back says of a shape that is no longer on the pile.
const out = math.MaxInt

// visit comes to a shape, and to all to which it leads.
func (l *looper) visit(s *rule) {
	if l.came[s.at] != 0 {
		return
	}
	l.clock++
	came := l.clock
	l.came[s.at], l.back[s.at] = came, came
	l.pile = append(l.pile, s)
	for _, w := range s.words {
		if to, ok := w.(leading); ok {
			for _, next := range to.shapes() {
				l.visit(next)
				l.looped[s.at] = l.looped[s.at] || next == s
				l.back[s.at] = min(l.back[s.at], l.back[next.at])
			}
		}
	}
	if l.back[s.at] < came {
		return
	}
	// All that lie on the pile from s on lead to one another.
	several := l.pile[len(l.pile)-1] != s
	for on := true; on; {
		last := l.pile[len(l.pile)-1]
		l.pile = l.pile[:len(l.pile)-1]
		l.looped[last.at] = l.looped[last.at] || several
		l.back[last.at] = out
		on = last != s
	}
}
