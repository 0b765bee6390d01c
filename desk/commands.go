package desk

import (
	"affidavit/ask"
	"affidavit/canon"
	"affidavit/diff"
	"affidavit/merge"
	"affidavit/order"
	"affidavit/parse"
	"affidavit/patch"
	"affidavit/pointer"
	"affidavit/query"
	"affidavit/shape"
)

// command is what a word stands for: the kinds of the values behind it, and what is done with them.
type command struct {
	kinds string
	do    func(*Desk, *words) string
}

// commands are all words.
func commands() map[string]command {
	return map[string]command{
		"set":     {"nv", (*Desk).set},
		"tell":    {"a", (*Desk).tell},
		"read":    {"nti", (*Desk).parse},
		"form":    {"a", (*Desk).form},
		"size":    {"a", (*Desk).size},
		"find":    {"at", (*Desk).find},
		"ask":     {"atii", (*Desk).ask},
		"all":     {"ai", (*Desk).all},
		"order":   {"aa", (*Desk).order},
		"patch":   {"nav", (*Desk).patch},
		"undo":    {"nav", (*Desk).undo},
		"diff":    {"naa", (*Desk).diff},
		"merge":   {"naa", (*Desk).merge},
		"three":   {"naaa", (*Desk).three},
		"shape":   {"aa", (*Desk).shape},
		"query":   {"at", (*Desk).query},
		"hide":    {"nnap", (*Desk).hide},
		"open":    {"nao", (*Desk).open},
		"hidden":  {"a", (*Desk).hidden},
		"root":    {"a", (*Desk).root},
		"prove":   {"nat", (*Desk).prove},
		"check":   {"dtal", (*Desk).check},
		"key":     {"tx", (*Desk).key},
		"seal":    {"natK", (*Desk).seal},
		"unseal":  {"naiK", (*Desk).unseal},
		"judge":   {"ar", (*Desk).judge},
		"grant":   {"nka", (*Desk).grant},
		"verify":  {"nAaKr", (*Desk).verify},
		"enter":   {"a", (*Desk).enter},
		"stands":  {"ii", (*Desk).stands},
		"grew":    {"ii", (*Desk).grew},
		"put":     {"a", (*Desk).put},
		"get":     {"nd", (*Desk).get},
		"charter": {"tkKtr", (*Desk).charter},
		"witness": {"kK", (*Desk).watch},
		"submit":  {"Aai", (*Desk).submit},
		"receipt": {"d", (*Desk).receipt},
		"show":    {"", (*Desk).show},
	}
}

// set names a value.
func (d *Desk) set(w *words) string {
	d.name(w.gets[0], w.value)
	return ok()
}

// tell tells a value.
func (d *Desk) tell(w *words) string { return ok(form(w.trees[0])) }

// parse names the value of a document.
func (d *Desk) parse(w *words) string {
	d.name(w.gets[0], sure(parse.Read([]byte(w.texts[0]), w.numbers[0])))
	return ok()
}

// form tells a value's one form, as a text.
func (d *Desk) form(w *words) string { return ok(text(form(w.trees[0]))) }

// size tells how great a value is.
func (d *Desk) size(w *words) string {
	nodes, bytes, depth := w.trees[0].Size()
	return ok(number(nodes), number(bytes), number(depth))
}

// find tells what stands at a pointer.
func (d *Desk) find(w *words) string {
	r := sure(pointer.Find(w.trees[0], w.texts[0]))
	return ok(sure(canon.Part(r)))
}

// ask asks what stands at a pointer what it is.
func (d *Desk) ask(w *words) string {
	h := sure(ask.Ask(w.trees[0], w.texts[0], w.numbers[0], w.numbers[1]))
	return ok(flag(h.OK), flag(h.Panicked), number(h.Sort), flag(h.Nil))
}

// all tells where the values are of which a want holds.
func (d *Desk) all(w *words) string {
	var l []string
	for p := range ask.All(w.trees[0], w.numbers[0]) {
		l = append(l, p)
	}
	return ok(texts(l))
}

// order holds two values against each other.
func (d *Desk) order(w *words) string {
	return ok(number(order.Compare(w.trees[0].Root(), w.trees[1].Root())))
}

// patch names what operations come to.
func (d *Desk) patch(w *words) string {
	ops := sure(patch.Read(w.value))
	d.name(w.gets[0], sure(patch.Apply(w.trees[0], ops)))
	return ok()
}

// undo names the operations that undo some.
func (d *Desk) undo(w *words) string {
	ops := sure(patch.Read(w.value))
	back := sure(patch.Invert(w.trees[0], ops))
	d.name(w.gets[0], sure(patch.Tell(back)))
	return ok()
}

// diff names the operations that lead from one value to another one.
func (d *Desk) diff(w *words) string {
	ops := sure(diff.Ops(w.trees[0], w.trees[1]))
	d.name(w.gets[0], sure(patch.Tell(ops)))
	return ok(number(len(ops)))
}

// merge names what comes of laying one value over another one.
func (d *Desk) merge(w *words) string {
	d.name(w.gets[0], sure(merge.Merge(w.trees[0], w.trees[1])))
	return ok()
}

// three names what two have made of one, put together.
func (d *Desk) three(w *words) string {
	t, conflicts, err := merge.Three(w.trees[0], w.trees[1], w.trees[2])
	need(err == nil, err)
	d.name(w.gets[0], t)
	return ok(texts(conflicts))
}

// shape looks whether a value has a shape.
func (d *Desk) shape(w *words) string {
	s := sure(shape.New(w.trees[1]))
	err := s.Check(w.trees[0])
	need(err == nil, err)
	return ok()
}

// query tells what a question picks.
func (d *Desk) query(w *words) string {
	q := sure(query.Parse(w.texts[0]))
	return ok(texts(sure(q.Pointers(w.trees[0]))))
}
