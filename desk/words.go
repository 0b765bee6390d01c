package desk

import (
	"affidavit/api"
	"affidavit/base"
	"affidavit/node"
)

// mostName is how many bytes the name of a value has at most.
const mostName = 64

// words are what a line says behind its command, by their kinds.
type words struct {
	gets     []string      // n: names that what is said gets
	trees    []*node.Tree  // a
	texts    []string      // t
	numbers  []int         // i
	value    *node.Tree    // v
	bytes    []byte        // x
	digest   api.Digest    // d
	key      api.Key       // k
	ring     []api.Key     // K
	grants   []*node.Tree  // A
	rules    api.Rules     // r
	parts    []api.Part    // p
	openings []api.Opening // o
	proof    api.Proof     // l: the levels that check is told
	nobody   bool          // somebody is meant who isn't there
}

// must refuses the line, unless it is as its command has it.
func must(well bool) { need(well, api.ErrCommand) }

// read is the command of a line, and what it says behind it.
func (d *Desk) read(line node.Ref) (command, *words) {
	must(line.Sort() == api.SortList)
	first, _ := line.At(0)
	word, _ := first.Text()
	c, known := commands()[word]
	must(known && line.Len() == len(c.kinds)+1)
	w := &words{}
	for i, kind := range c.kinds {
		r, _ := line.At(i + 1)
		d.take(w, kind, r)
	}
	return c, w
}

// take takes a value as one of a kind.
func (d *Desk) take(w *words, kind rune, r node.Ref) {
	switch kind {
	case 'n':
		w.gets = append(w.gets, nameOf(r))
	case 'a':
		w.trees = append(w.trees, d.meant(w, r))
	case 't':
		w.texts = append(w.texts, textOf(r))
	case 'i':
		w.numbers = append(w.numbers, wholeOf(r))
	case 'v':
		w.value = r.Tree()
	case 'x':
		w.bytes = bytesOf(r)
	case 'd':
		w.digest = digestOf(r)
	case 'k':
		w.key = d.keyOf(w, r)
	case 'K':
		for _, v := range listOf(r) {
			w.ring = append(w.ring, d.keyOf(w, v))
		}
	case 'A':
		for _, v := range listOf(r) {
			w.grants = append(w.grants, d.meant(w, v))
		}
	case 'r':
		w.rules = rulesOf(r)
	case 'p':
		for _, v := range listOf(r) {
			pair := someOf(v, 2)
			w.parts = append(w.parts, api.Part{Pointer: textOf(pair[0]), Salt: bytesOf(pair[1])})
		}
	case 'o':
		for _, v := range listOf(r) {
			pair := someOf(v, 2)
			w.openings = append(w.openings, api.Opening{Salt: bytesOf(pair[0]), Steps: pair[1].Steps()})
		}
	case 'l':
		for _, v := range listOf(r) {
			w.proof.Levels = append(w.proof.Levels, levelOf(v))
		}
	}
}

// listOf are the values of a list.
func listOf(r node.Ref) []node.Ref {
	must(r.Sort() == api.SortList)
	values := make([]node.Ref, 0, r.Len())
	for _, v := range r.All() {
		values = append(values, v)
	}
	return values
}

// someOf are the values of a list of so many.
func someOf(r node.Ref, n int) []node.Ref {
	must(r.Len() == n)
	return listOf(r)
}

// textOf is a text.
func textOf(r node.Ref) string {
	s, ok := r.Text()
	must(ok)
	return s
}

// textsOf is a list of texts.
func textsOf(r node.Ref) []string {
	var l []string
	for _, v := range listOf(r) {
		l = append(l, textOf(v))
	}
	return l
}

// nameOf is the name of a value.
func nameOf(r node.Ref) string {
	s := textOf(r)
	must(s != "" && len(s) <= mostName)
	return s
}

// wholeOf is a whole number that may be a time.
func wholeOf(r node.Ref) int {
	x, ok := r.Number()
	must(ok && x >= 0 && x <= api.MaxTime && x == float64(int(x)))
	return int(x)
}

// bytesOf are bytes of which the letters are told.
func bytesOf(r node.Ref) []byte {
	b, err := base.Read(api.Hex, textOf(r))
	must(err == nil)
	return b
}

// digestOf is a digest of which the letters are told.
func digestOf(r node.Ref) api.Digest {
	d, err := base.ToDigest(textOf(r))
	must(err == nil)
	return d
}

// meant is the value of a name.
func (d *Desk) meant(w *words, r node.Ref) *node.Tree {
	t, there := d.values[nameOf(r)]
	w.nobody = w.nobody || !there
	return t
}

// keyOf is the key of a Name.
func (d *Desk) keyOf(w *words, r node.Ref) api.Key {
	k, there := d.keys[textOf(r)]
	w.nobody = w.nobody || !there
	return k
}

// rulesOf are rules, in which what is not there is zero.
func rulesOf(r node.Ref) api.Rules {
	must(r.Sort() == api.SortObject)
	var rules api.Rules
	for key, v := range r.All() {
		switch key {
		case "now":
			rules.Now = int64(wholeOf(v))
		case "slack":
			rules.Slack = int64(wholeOf(v))
		case "who":
			rules.Who = textOf(v)
		case "by":
			rules.By = textsOf(v)
		case "need":
			rules.Need = textsOf(v)
		case "may":
			rules.May = textsOf(v)
		default:
			must(false)
		}
	}
	return rules
}

// levelOf is a level of a proof, as prove tells it.
func levelOf(r node.Ref) api.Level {
	l := someOf(r, 4)
	level := api.Level{Sort: api.Sort(wholeOf(l[0])), Count: wholeOf(l[1]), At: wholeOf(l[2])}
	for _, v := range listOf(l[3]) {
		level.Sides = append(level.Sides, digestOf(v))
	}
	return level
}
