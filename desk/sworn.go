package desk

import (
	"affidavit/api"
	"affidavit/base"
	"affidavit/canon"
	"affidavit/chain"
	"affidavit/claims"
	"affidavit/digest"
	"affidavit/envelope"
	"affidavit/ledger"
	"affidavit/node"
	"affidavit/parse"
	"affidavit/veil"
	"affidavit/witness"
)

// maker makes a list that gets a name: what is not within the limits gives the line up.
type maker struct{ *node.Maker }

// newMaker is a maker that has nothing.
func newMaker() maker { return maker{node.New()} }

// well gives the line up, if there is no room.
func well(err error) { need(err == nil, api.ErrLong) }

// tree is what was made.
func (m maker) tree() *node.Tree {
	t, err := m.Tree()
	well(err)
	return t
}

// hide names what is left of a value, and the openings of what is hidden.
func (d *Desk) hide(w *words) string {
	t, openings, err := veil.Hide(w.trees[0], w.parts)
	need(err == nil, err)
	m := newMaker()
	for _, o := range openings {
		value := sure(node.Build(o.Steps))
		well(m.Text(base.Hex(o.Salt)))
		well(m.Copy(value.Root()))
		well(m.List(2))
	}
	well(m.List(len(openings)))
	told := m.tree()
	d.name(w.gets[0], t)
	d.name(w.gets[1], told)
	return ok()
}

// open names a value whose hidden parts are opened.
func (d *Desk) open(w *words) string {
	d.name(w.gets[0], sure(veil.Open(w.trees[0], w.openings)))
	return ok()
}

// hidden tells where the veils are.
func (d *Desk) hidden(w *words) string { return ok(texts(veil.Hidden(w.trees[0]))) }

// root tells a value's digest.
func (d *Desk) root(w *words) string { return ok(hex(sure(digest.Of(w.trees[0])))) }

// prove names the levels of a proof.
func (d *Desk) prove(w *words) string {
	p := sure(digest.Prove(w.trees[0], w.texts[0]))
	m := newMaker()
	for _, l := range p.Levels {
		for _, n := range []int{int(l.Sort), l.Count, l.At} {
			well(m.Number(float64(n)))
		}
		for _, side := range l.Sides {
			well(m.Text(base.Digest(side)))
		}
		well(m.List(len(l.Sides)))
		well(m.List(4))
	}
	well(m.List(len(p.Levels)))
	d.name(w.gets[0], m.tree())
	return ok()
}

// check checks the proof of a part.
func (d *Desk) check(w *words) string {
	err := digest.Check(w.digest, w.texts[0], w.trees[0], w.proof)
	need(err == nil, err)
	return ok()
}

// key puts a key into the ring.
func (d *Desk) key(w *words) string {
	d.join(api.Key{Name: w.texts[0], Secret: w.bytes})
	return ok()
}

// valueOf is the value of an envelope's bytes.
func valueOf(b []byte) *node.Tree { return sure(parse.Read(b, api.MaxDepth)) }

// plain are a value's canonical bytes.
func plain(t *node.Tree) []byte { return sure(canon.Bytes(t)) }

// grantsOf are the bytes of grants; of too many nothing but how many they are.
func grantsOf(trees []*node.Tree) [][]byte {
	grants := make([][]byte, len(trees))
	if len(trees) > api.MaxChain {
		return grants
	}
	for i, t := range trees {
		grants[i] = plain(t)
	}
	return grants
}

// seal names a sealed value.
func (d *Desk) seal(w *words) string {
	d.name(w.gets[0], valueOf(sure(envelope.Seal(w.trees[0], w.texts[0], w.ring))))
	return ok()
}

// unseal names what was sealed, if that is trusted.
func (d *Desk) unseal(w *words) string {
	t, how, err := envelope.Open(plain(w.trees[0]), w.ring, w.numbers[0])
	need(err == nil, err)
	if t != nil {
		d.name(w.gets[0], t)
	}
	return ok(trust(how))
}

// judge tells whether what is claimed holds.
func (d *Desk) judge(w *words) string { return ok(verdict(claims.Tree(w.trees[0], w.rules))) }

// grant names a grant, and puts the key that it grants into the ring.
func (d *Desk) grant(w *words) string {
	c := sure(claims.Read(w.trees[0]))
	b, k, err := chain.Grant(w.key, c)
	need(err == nil, err)
	t := valueOf(b)
	d.join(k)
	d.name(w.gets[0], t)
	return ok(text(k.Name))
}

// verify names a statement's value, if it stands behind its grants.
func (d *Desk) verify(w *words) string {
	t, how, err := chain.Verify(w.ring, grantsOf(w.grants), plain(w.trees[0]), w.rules)
	need(err == nil, err)
	if t != nil {
		d.name(w.gets[0], t)
	}
	return ok(standing(how))
}

// enter puts a value behind the book's other entries.
func (d *Desk) enter(w *words) string { return ok(number(sure(d.book.Append(plain(w.trees[0]))))) }

// stands tells the proof that an entry stands in the book.
func (d *Desk) stands(w *words) string {
	return ok(hexes(sure(d.book.Stands(w.numbers[0], w.numbers[1]))))
}

// grew tells the proof that the book grew.
func (d *Desk) grew(w *words) string {
	return ok(hexes(sure(d.book.Grew(w.numbers[0], w.numbers[1]))))
}

// put puts a document into the store.
func (d *Desk) put(w *words) string { return ok(hex(sure(d.docs.Put(w.trees[0])))) }

// get names a document of the store.
func (d *Desk) get(w *words) string {
	d.name(w.gets[0], sure(d.docs.Get(w.digest)))
	return ok()
}

// charter makes the ledger.
func (d *Desk) charter(w *words) string {
	c := api.Charter{Origin: w.texts[0], Own: w.key, Ring: w.ring, Kind: w.texts[1], Rules: w.rules}
	d.ledger = sure(ledger.New(c))
	return ok()
}

// watch makes the witness.
func (d *Desk) watch(w *words) string {
	d.witness = sure(witness.New(w.key, w.ring))
	return ok()
}

// submit submits a statement to the ledger.
func (d *Desk) submit(w *words) string {
	need(d.ledger != nil, api.ErrNone)
	o := sure(d.ledger.Submit(plain(w.trees[0]), grantsOf(w.grants), int64(w.numbers[0])))
	return ok(outcome(o))
}

// receipt tells what proves that the ledger has a document.
func (d *Desk) receipt(w *words) string {
	need(d.ledger != nil, api.ErrNone)
	r := sure(d.ledger.Prove(w.digest))
	return ok(number(r.Entry.Index), number(r.Entry.Time), hexes(r.Proof))
}

// show shows the ledger to the witness.
func (d *Desk) show(w *words) string {
	need(d.ledger != nil && d.witness != nil, api.ErrNone)
	_, f, err := d.ledger.Show(d.witness)
	need(err == nil, err)
	return ok(finding(f))
}
