package merge

import (
	"affidavit/api"
	"affidavit/keys"
	"affidavit/node"
	"affidavit/pointer"
)

// Three puts together what two have made of one.
func Three(base, a, b *node.Tree) (*node.Tree, []string, error) {
	if base == nil || a == nil || b == nil {
		return nil, nil, api.ErrNil
	}
	t := together{maker: node.New()}
	t.put(base.Root(), a.Root(), b.Root(), nil)
	if t.long {
		return nil, nil, api.ErrLong
	}
	tree, err := t.maker.Tree()
	if err != nil {
		return nil, nil, err
	}
	return tree, t.conflicts, nil
}

// together is what was put together so far.
type together struct {
	maker     *node.Maker
	conflicts []string
	long      bool // whether it is too great
}

// put puts what comes of putting together what three have at a place, and tells whether there is a value.
func (t *together) put(o, x, y node.Ref, way []string) bool {
	switch {
	case x.Same(y), y.Same(o):
		return t.take(x)
	case x.Same(o):
		return t.take(y)
	case x.Sort() == api.SortObject && y.Sort() == api.SortObject:
		t.members(o, x, y, way)
		return true
	}
	p, _ := pointer.Print(way)
	t.conflicts = append(t.conflicts, p)
	return t.take(x)
}

// take puts one of the three, if it is not none.
func (t *together) take(r node.Ref) bool {
	if r.Sort() == 0 {
		return false
	}
	t.must(t.maker.Copy(r))
	return true
}

// must takes notice of what a maker refuses.
func (t *together) must(err error) { t.long = t.long || err != nil }

// members puts the object of what comes of each key that one of the three has.
func (t *together) members(o, x, y node.Ref, way []string) {
	var there []string
	for _, key := range keys.Union(o, x, y) {
		of, _ := o.Find(key)
		xf, _ := x.Find(key)
		yf, _ := y.Find(key)
		if t.put(of, xf, yf, down(way, key)) {
			there = append(there, key)
		}
		if t.long {
			return
		}
	}
	t.must(t.maker.Object(there...))
}
