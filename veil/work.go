package veil

import (
	"bytes"

	"affidavit/api"
	"affidavit/node"
	"affidavit/pointer"
	"affidavit/sha"
)

// item is a value that is worked on: as it stands in a tree, until it is parted into those within it.
type item struct {
	up     *item
	deep   int // how many others it stands within
	r      node.Ref
	parted bool
	inside []*item
	keys   []string
	at     map[string]int // the place of each key
}

// part parts an item into those within it.
func (i *item) part() {
	if i.parted {
		return
	}
	i.parted, i.at = true, map[string]int{}
	for key, r := range i.r.All() {
		if i.r.Sort() == api.SortObject {
			i.at[key] = len(i.keys)
			i.keys = append(i.keys, key)
		}
		i.inside = append(i.inside, &item{up: i, deep: i.deep + 1, r: r})
	}
}

// put puts another value in an item's place.
func (i *item) put(r node.Ref) { *i = item{up: i.up, deep: i.deep, r: r} }

// digest is the digest of an item that is a veil, as it stands now.
func (i *item) digest() (api.Digest, bool) {
	switch {
	case !i.parted:
		return digestOf(i.r)
	case len(i.keys) == 1 && i.keys[0] == key:
		return digestIn(i.inside[0].r)
	}
	return api.Digest{}, false
}

// into is the item to which a token leads on.
func (i *item) into(token string) (*item, bool) {
	i.part()
	at, ok := pointer.Index(token, len(i.inside))
	if i.r.Sort() == api.SortObject {
		at, ok = i.at[token]
	}
	if !ok {
		return nil, false
	}
	return i.inside[at], true
}

// sealed is an item as a value within a tree. It is within the limits, so no maker refuses it.
func (i *item) sealed() node.Ref {
	m := node.New()
	var tell func(i *item)
	tell = func(i *item) {
		if !i.parted || len(i.inside) == 0 {
			_ = m.Copy(i.r)
			return
		}
		for _, inner := range i.inside {
			tell(inner)
		}
		if i.r.Sort() == api.SortObject {
			_ = m.Object(i.keys...)
		} else {
			_ = m.List(len(i.inside))
		}
	}
	tell(i)
	t, _ := m.Tree()
	return t.Root()
}

// work is a value in which parts are hidden, or opened.
type work struct {
	root         *item
	nodes, bytes int
	veils        map[api.Digest][]*item // where the veils of a digest stand
	opened       map[api.Digest]int     // which digests were opened
}

// start is the work on a tree's value.
func start(t *node.Tree) *work {
	nodes, size, _ := t.Size()
	return &work{&item{r: t.Root()}, nodes, size, map[api.Digest][]*item{}, map[api.Digest]int{}}
}

// replace puts a value in the place of others that are as great as one of them is; ErrLong, if that would be too much.
func (w *work) replace(places []*item, was, is node.Ref) api.Errno {
	nodes, size, _ := was.Size()
	n, b, deep := is.Size()
	nodes, size = w.nodes+len(places)*(n-nodes), w.bytes+len(places)*(b-size)
	if nodes > api.MaxNodes || size > api.MaxBytes {
		return api.ErrLong
	}
	for _, i := range places {
		if i.deep+deep > api.MaxDepth {
			return api.ErrLong
		}
	}
	for _, i := range places {
		i.put(is)
	}
	w.nodes, w.bytes = nodes, size
	return api.OK
}

// hide hides a part, and tells the opening.
func (w *work) hide(p api.Part) (api.Opening, api.Errno) {
	if wrongSalt(p.Salt) {
		return api.Opening{}, api.ErrSalt
	}
	tokens, ok := parse(p.Pointer)
	if !ok {
		return api.Opening{}, api.ErrArg
	}
	i := w.root
	for gone := 0; ; gone++ {
		if _, ok := i.digest(); ok {
			return api.Opening{}, api.ErrVeil
		}
		if gone == len(tokens) {
			break
		}
		next, ok := i.into(tokens[gone])
		if !ok {
			return api.Opening{}, api.ErrNone
		}
		i = next
	}
	was := i.sealed()
	o := api.Opening{Salt: bytes.Clone(p.Salt), Steps: was.Steps()}
	d := sha.Sum(bytesOf(p.Salt, was.Tree()))
	if no := w.replace([]*item{i}, was, veilOf(d)); no != api.OK {
		return api.Opening{}, no
	}
	return o, api.OK
}

// find finds the veils within an item.
func (w *work) find(i *item) {
	if d, ok := i.digest(); ok {
		w.veils[d] = append(w.veils[d], i)
		return
	}
	i.part()
	for _, inner := range i.inside {
		w.find(inner)
	}
}

// open puts an opening's value in the place of each veil that it fits.
func (w *work) open(o api.Opening) api.Errno {
	t, d, no := read(o)
	if no != api.OK {
		return no
	}
	places := w.veils[d]
	if len(places) == 0 {
		if w.opened[d] == 0 {
			return api.ErrNone
		}
		return api.OK
	}
	if no := w.replace(places, veilOf(d), t.Root()); no != api.OK {
		return no
	}
	delete(w.veils, d)
	w.opened[d] = 1
	for _, i := range places {
		w.find(i)
		// A text in the place of a veil may make a veil of what it stands in.
		if i.up == nil {
			continue
		}
		if d, ok := i.up.digest(); ok {
			w.veils[d] = append(w.veils[d], i.up)
		}
	}
	return api.OK
}
