package merge

import (
	"maps"
	"slices"

	"affidavit/api"
	"affidavit/node"
)

// thing is what stands at a place of a value over which others are laid.
type thing interface {
	// put puts it on a maker's row.
	put(m *node.Maker)
}

// none stands where there is no value.
type none struct{}

// still is a value that has not changed.
type still struct{ r node.Ref }

// object is an object whose members may change.
type object struct{ members map[string]thing }

func (none) put(*node.Maker) {}

func (s still) put(m *node.Maker) { _ = m.Copy(s.r) }

func (o *object) put(m *node.Maker) {
	keys := slices.Sorted(maps.Keys(o.members))
	for _, key := range keys {
		o.members[key].put(m)
	}
	_ = m.Object(keys...)
}

// work is a value over which others are laid, and how great it is.
type work struct {
	root                thing
	nodes, bytes, depth int
}

// start is a tree's value, over which nothing was laid.
func start(t *node.Tree) *work {
	w := &work{root: still{t.Root()}}
	w.nodes, w.bytes, w.depth = t.Size()
	return w
}

// over lays a tree's value over what there is; false, if that is too great then.
func (w *work) over(t *node.Tree) bool {
	w.root = w.lay(w.root, t.Root(), 0)
	return w.nodes <= api.MaxNodes && w.bytes <= api.MaxBytes && w.depth <= api.MaxDepth
}

// whole is a tree of what there is. It is within the limits, so no maker refuses it.
func (w *work) whole() *node.Tree {
	m := node.New()
	w.root.put(m)
	t, _ := m.Tree()
	return t
}

// lay is what comes of laying p over what stands so deep.
func (w *work) lay(v thing, p node.Ref, depth int) thing {
	if p.Sort() != api.SortObject {
		w.gone(v)
		nodes, bytes, deep := p.Size()
		w.nodes += nodes
		w.bytes += bytes
		w.depth = max(w.depth, depth+deep)
		return still{p}
	}
	o := w.opened(v, depth)
	for key, q := range p.All() {
		was, ok := o.members[key]
		null := q.Sort() == api.SortNull
		switch {
		case ok && null:
			w.gone(was)
			w.bytes -= len(key)
			delete(o.members, key)
		case !ok && !null:
			w.bytes += len(key)
			o.members[key] = w.lay(none{}, q, depth+1)
		case ok:
			o.members[key] = w.lay(was, q, depth+1)
		}
	}
	return o
}

// opened is what stands so deep, as an object whose members may change: what is none goes, and one without members comes.
func (w *work) opened(v thing, depth int) *object {
	switch x := v.(type) {
	case *object:
		return x
	case still:
		if x.r.Sort() != api.SortObject {
			break
		}
		o := &object{map[string]thing{}}
		for key, r := range x.r.All() {
			o.members[key] = still{r}
		}
		return o
	}
	w.gone(v)
	w.nodes++
	w.depth = max(w.depth, depth+1)
	return &object{map[string]thing{}}
}

// gone takes notice that something is no part of the value any more. How deep the value is may be less then; that is not asked for: it was not too deep ahead.
func (w *work) gone(v thing) {
	switch x := v.(type) {
	case still:
		nodes, bytes, _ := x.r.Size()
		w.nodes -= nodes
		w.bytes -= bytes
	case *object:
		w.nodes--
		for key, inner := range x.members {
			w.bytes -= len(key)
			w.gone(inner)
		}
	}
}
