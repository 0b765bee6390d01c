package patch

import (
	"maps"
	"slices"

	"affidavit/api"
	"affidavit/node"
	"affidavit/pointer"
)

// part is a value that is worked on: as it stands in a tree, or opened, so that what is in it may change.
type part interface {
	// put puts it on a maker's row.
	put(m *node.Maker)
}

// still is a value that has not changed.
type still struct{ r node.Ref }

// row is a list that is opened.
type row struct{ items []part }

// members are an object that is opened.
type members struct{ at map[string]part }

func (s still) put(m *node.Maker) { _ = m.Copy(s.r) }

func (l *row) put(m *node.Maker) {
	for _, item := range l.items {
		item.put(m)
	}
	_ = m.List(len(l.items))
}

func (o *members) put(m *node.Maker) {
	keys := slices.Sorted(maps.Keys(o.at))
	for _, key := range keys {
		o.at[key].put(m)
	}
	_ = m.Object(keys...)
}

// seal is a part as a value within a tree. The parts of a value that is within the limits are so, too, and no maker refuses them.
func seal(p part) node.Ref {
	if s, ok := p.(still); ok {
		return s.r
	}
	m := node.New()
	p.put(m)
	t, _ := m.Tree()
	return t.Root()
}

// open is a part whose inside may change; of what has none it is the part.
func open(p part) part {
	s, ok := p.(still)
	if !ok {
		return p
	}
	switch s.r.Sort() {
	case api.SortList:
		l := &row{}
		for _, r := range s.r.All() {
			l.items = append(l.items, still{r})
		}
		return l
	case api.SortObject:
		o := &members{map[string]part{}}
		for key, r := range s.r.All() {
			o.at[key] = still{r}
		}
		return o
	}
	return p
}

// inside is the part to which a token leads on from an opened one.
func inside(p part, token string) (part, bool) {
	switch x := p.(type) {
	case *row:
		if i, ok := pointer.Index(token, len(x.items)); ok {
			return x.items[i], true
		}
	case *members:
		inner, ok := x.at[token]
		return inner, ok
	}
	return nil, false
}

// change puts another part in the place of the one to which a token leads on.
func change(p part, token string, inner part) {
	switch x := p.(type) {
	case *row:
		i, _ := pointer.Index(token, len(x.items))
		x.items[i] = inner
	case *members:
		x.at[token] = inner
	}
}

// along goes along tokens from a value within a tree.
func along(r node.Ref, tokens []string) (node.Ref, bool) {
	ok := true
	for _, token := range tokens {
		switch r.Sort() {
		case api.SortList:
			i, is := pointer.Index(token, r.Len())
			r, ok = r.At(i)
			ok = ok && is
		default:
			r, ok = r.Find(token)
		}
		if !ok {
			return node.Ref{}, false
		}
	}
	return r, true
}

// work is a value, and what has been done to it.
type work struct {
	root         part
	nodes, bytes int
	undo         []undo
}

// undo is an operation that leads back from what was done.
type undo struct {
	kind  int
	path  string
	value node.Ref
}

// start is the work on a tree's value.
func start(t *node.Tree) *work {
	nodes, bytes, _ := t.Size()
	return &work{root: still{t.Root()}, nodes: nodes, bytes: bytes}
}

// whole is a tree of what the value has become.
func (w *work) whole() *node.Tree { return seal(w.root).Tree() }

// reach opens all parts along tokens, and is the last one.
func (w *work) reach(tokens []string) (part, bool) {
	w.root = open(w.root)
	at := w.root
	for _, token := range tokens {
		inner, ok := inside(at, token)
		if !ok {
			return nil, false
		}
		inner = open(inner)
		change(at, token, inner)
		at = inner
	}
	return at, true
}

// look is the value to which tokens lead. What was opened there is sealed, so that it need not be put together twice.
func (w *work) look(tokens []string) (node.Ref, bool) {
	at := w.root
	for i, token := range tokens {
		if s, ok := at.(still); ok {
			return along(s.r, tokens[i:])
		}
		inner, ok := inside(at, token)
		if !ok {
			return node.Ref{}, false
		}
		at = inner
	}
	r := seal(at)
	w.replace(tokens, r)
	return r, true
}

// replace puts a value in the place of the one to which tokens lead.
func (w *work) replace(tokens []string, r node.Ref) {
	if len(tokens) == 0 {
		w.root = still{r}
		return
	}
	last := len(tokens) - 1
	parent, _ := w.reach(tokens[:last])
	change(parent, tokens[last], still{r})
}

// count takes notice of a value that comes, and of one that goes.
func (w *work) count(comes, goes node.Ref) {
	n, b, _ := comes.Size()
	m, c, _ := goes.Size()
	w.nodes += n - m
	w.bytes += b - c
}

// fits gives up, unless the value is within the limits, in which another one has come so deep.
func (w *work) fits(tokens []string, comes node.Ref) {
	_, _, depth := comes.Size()
	need(w.nodes <= api.MaxNodes && w.bytes <= api.MaxBytes && len(tokens)+depth <= api.MaxDepth, api.ErrLong)
}
