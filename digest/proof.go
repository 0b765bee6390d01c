package digest

import (
	"slices"
	"sort"

	"affidavit/api"
	"affidavit/node"
	"affidavit/pointer"
	"affidavit/utf"
)

// Prove is the proof of a pointer.
func Prove(t *node.Tree, pointer string) (api.Proof, error) {
	r, err := find(t, pointer)
	if err != nil {
		return api.Proof{}, err
	}
	return prove(t, pointer, of(r)), nil
}

// prove is the proof of a pointer that leads to a value with this digest. Going outward no digest is taken twice.
func prove(t *node.Tree, p string, d api.Digest) api.Proof {
	tokens, _ := pointer.Parse(p)
	r := t.Root()
	var groups []node.Ref
	for _, token := range tokens {
		groups = append(groups, r)
		r, _ = r.At(place(r, token))
	}
	var proof api.Proof
	for i, token := range slices.Backward(tokens) {
		g := groups[i]
		at := place(g, token)
		l := rowOf(g, values(g, at, d))
		proof.Levels = append(proof.Levels, api.Level{Sort: g.Sort(), Count: g.Len(), At: at, Sides: sides(l, at)})
		d = group(wordOf(g.Sort()), l, take)
	}
	return proof
}

// place is the place of the value to which a token leads on; of an object without that key the place that it would have.
func place(r node.Ref, token string) int {
	if i, ok := pointer.Index(token, r.Len()); ok && r.Sort() == api.SortList {
		return i
	}
	return sort.Search(r.Len(), func(i int) bool {
		key, _ := r.Key(i)
		return utf.Compare(key, token) >= 0
	})
}

// Check tells whether a part stands at a pointer in the value of a digest.
func Check(whole api.Digest, pointer string, part *node.Tree, p api.Proof) error {
	if part == nil {
		return api.ErrNil
	}
	tokens, err := parsed(pointer, p)
	if err != nil {
		return err
	}
	if climb(of(part.Root()), tokens, p) != whole {
		return api.ErrSum
	}
	return nil
}

// parsed are a pointer's tokens, if a proof has such levels as they ask for.
func parsed(s string, p api.Proof) ([]string, error) {
	tokens, err := pointer.Parse(s)
	if err != nil {
		return nil, err
	}
	for i, l := range p.Levels {
		if i < len(tokens) && !standsFor(l, tokens[len(tokens)-1-i]) {
			return nil, api.Spot{Err: api.ErrLevels, At: i}
		}
	}
	if len(p.Levels) != len(tokens) {
		return nil, api.Spot{Err: api.ErrLevels, At: len(tokens)}
	}
	return tokens, nil
}

// standsFor tells whether a level is such as a token asks for.
func standsFor(l api.Level, token string) bool {
	switch {
	case l.Sort != api.SortList && l.Sort != api.SortObject:
		return false
	case l.Count < 1 || l.Count > api.MaxNodes || !hasPlace(l.Count, l.At, l.Sides):
		return false
	case l.Sort == api.SortObject:
		return true
	}
	i, ok := pointer.Index(token, l.Count)
	return ok && i == l.At
}

// hasPlace tells whether a row of n has a place, and as many sides of it.
func hasPlace(n, at int, sides []api.Digest) bool {
	return at >= 0 && at < n && len(sides) == count(n, at)
}

// climb is the digest of the whole in which a value with this digest stands, by a proof's levels.
func climb(d api.Digest, tokens []string, p api.Proof) api.Digest {
	for i, l := range p.Levels {
		d = placed(l.Sort, tokens[len(tokens)-1-i], d)
		d = whole(wordOf(l.Sort), l.Count, fold(d, l.Count, l.At, l.Sides), take)
	}
	return d
}

// Deny proves that an object has not a key.
func Deny(t *node.Tree, pointer string) (api.Denial, error) {
	if t == nil {
		return api.Denial{}, api.ErrNil
	}
	up, token, err := split(pointer)
	if err != nil {
		return api.Denial{}, err
	}
	o, err := find(t, up)
	switch {
	case err != nil:
		return api.Denial{}, err
	case o.Sort() != api.SortObject:
		return api.Denial{}, api.Trail{Err: api.ErrSort, Pointer: up}
	}
	if _, ok := o.Find(token); ok {
		return api.Denial{}, api.Trail{Err: api.ErrTwice, Pointer: pointer}
	}
	known := values(o, -1, api.Digest{})
	l := rowOf(o, known)
	at := place(o, token)
	d := api.Denial{Count: o.Len(), Proof: prove(t, up, group(ofObject, l, take))}
	for i := max(at-1, 0); i <= at && i < o.Len(); i++ {
		key, _ := o.Key(i)
		d.Beside = append(d.Beside, api.Neighbour{Key: key, Value: known[i], At: i, Sides: sides(l, i)})
	}
	return d, nil
}

// split is a pointer without its last token, and that token.
func split(p string) (string, string, error) { return pointer.Up(p) }

// CheckDenial tells whether an object in the value of a digest has not a key.
func CheckDenial(whole api.Digest, pointer string, d api.Denial) error {
	up, token, err := split(pointer)
	switch {
	case err != nil:
		return err
	case d.Count < 0 || d.Count > api.MaxNodes:
		return api.ErrArg
	case !beside(d, token):
		return api.Spot{Err: api.ErrLevels}
	}
	tokens, err := parsed(up, d.Proof)
	if err != nil {
		return err
	}
	sum, ok := rowOfDenial(d)
	if !ok || climb(objectOf(d.Count, sum), tokens, d.Proof) != whole {
		return api.ErrSum
	}
	return nil
}

// objectOf is the digest of an object with so many members, whose row has this digest.
func objectOf(n int, row api.Digest) api.Digest { return whole(ofObject, n, row, take) }

// beside tells whether the members beside are such as a key asks for that is not there.
func beside(d api.Denial, token string) bool {
	l := d.Beside
	for _, n := range l {
		if !utf.Right(n.Key) || !hasPlace(d.Count, n.At, n.Sides) {
			return false
		}
	}
	if d.Count == 0 || len(l) == 0 || len(l) > 2 {
		return d.Count == 0 && len(l) == 0
	}
	first, last := l[0], l[len(l)-1]
	below, above := utf.Compare(first.Key, token) < 0, utf.Compare(last.Key, token) > 0
	if len(l) == 1 {
		return above && last.At == 0 || below && first.At == d.Count-1
	}
	return below && above && last.At == first.At+1
}

// rowOfDenial is the digest of the row that comes of each member beside; false, if these are not one.
func rowOfDenial(d api.Denial) (api.Digest, bool) {
	if len(d.Beside) == 0 {
		return row(nil, take), true
	}
	var sums []api.Digest
	for _, n := range d.Beside {
		sums = append(sums, fold(member(n.Key, n.Value, take), d.Count, n.At, n.Sides))
	}
	return sums[0], sums[0] == sums[len(sums)-1]
}
