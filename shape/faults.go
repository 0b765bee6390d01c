package shape

import "affidavit/api"

// finder finds the faults of values, up to so many.
type finder struct {
	looker
	most int
	list api.All
}

// enough is what ends the finding.
type enough struct{ list api.All }

// faults are the first faults of a value by a shape; none, if it has it.
func faults(s *rule, i *item, most int) (list api.All) {
	f := &finder{looker: looker{map[pair]int{}}, most: most}
	defer func() {
		if p := recover(); p != nil {
			list = p.(enough).list
		}
	}()
	if !f.has(i, s) {
		f.rule(i, s)
	}
	return f.list
}

// tell tells a fault; it leaves, if that is enough.
func (f *finder) tell(no api.Errno, p *place) {
	f.list = append(f.list, api.Trail{Err: no, Pointer: p.pointer()})
	if len(f.list) == f.most {
		panic(enough{f.list})
	}
}

// rule tells the faults of a value by a shape that it has not.
func (f *finder) rule(i *item, s *rule) {
	if s.never {
		f.tell(api.ErrMix, &i.place)
	}
	for _, w := range s.words {
		if !f.holds(i, w) {
			f.word(i, w)
		}
	}
}

// word tells the faults of a value by a word that does not hold of it.
func (f *finder) word(i *item, w word) {
	if no := w.fault(); no != api.OK {
		f.tell(no, &i.place)
		return
	}
	switch x := w.(type) {
	case need:
		for _, key := range missing(x, i.ref) {
			f.tell(api.ErrNeed, &place{&i.place, key})
		}
		return
	case keys:
		for _, v := range f.wrongKeys(i, x) {
			f.tell(api.ErrNeed, &v.place)
		}
		return
	}
	for v, s := range f.asked(i, w) {
		if !f.has(v, s) {
			f.rule(v, s)
		}
	}
}
