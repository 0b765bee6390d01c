package utf

import "affidavit/api"

// A cursor is where one stands within a form: how many of its bytes are to come, and from where to where the next one may be.
type cursor struct {
	left        int
	least, most byte
}

// step takes one byte; false says that no right text goes on with it.
func (c *cursor) step(x byte) bool {
	if c.left > 0 {
		if x < c.least || x > c.most {
			return false
		}
		*c = cursor{c.left - 1, 0x80, 0xBF}
		return true
	}
	switch {
	case x < 0x80:
		return true
	case x < 0xC2 || x > 0xF4:
		return false
	case x < 0xE0:
		*c = cursor{1, 0x80, 0xBF}
	case x < 0xF0:
		*c = cursor{2, 0x80, 0xBF}
	default:
		*c = cursor{3, 0x80, 0xBF}
	}
	// Overlong forms, halves of pairs, and numbers above the last character are kept out by the second byte.
	switch x {
	case 0xE0:
		c.least = 0xA0
	case 0xED:
		c.most = 0x9F
	case 0xF0:
		c.least = 0x90
	case 0xF4:
		c.most = 0x8F
	}
	return true
}

// join is the number of a form's bytes so far, with one more.
func join(r rune, x byte) rune {
	switch {
	case x < 0x80:
		return rune(x)
	case x < 0xC0:
		return r<<6 | rune(x&0x3F)
	case x < 0xE0:
		return rune(x & 0x1F)
	case x < 0xF0:
		return rune(x & 0x0F)
	}
	return rune(x & 0x07)
}

// check goes over bytes, and tells where they are no right text.
func check[T []byte | string](b T) error {
	var c cursor
	for i := 0; i < len(b); i++ {
		if c.left == 0 && b[i] < 0x80 {
			continue
		}
		if !c.step(b[i]) {
			return fault(i, true, c)
		}
	}
	return fault(len(b), false, c)
}

// fault is what is wrong with bytes of which so many were taken, so that it ended there.
func fault(at int, wrong bool, c cursor) error {
	switch {
	case wrong:
		return api.Spot{Err: api.ErrByte, At: at}
	case c.left > 0:
		return api.Spot{Err: api.ErrCut, At: at}
	}
	return nil
}

// Feeder looks at bytes as they come.
type Feeder struct {
	form  [3]byte // the beginning of a form that is not whole
	held  int
	taken int
	wrong bool
}

// New is a feeder to which nothing came.
func New() *Feeder { return &Feeder{} }

// Feed takes further bytes, up to the first wrong one.
func (f *Feeder) Feed(b []byte) error {
	if f == nil {
		return api.ErrNil
	}
	if f.wrong {
		return f.End()
	}
	c := f.cursor()
	for _, x := range b {
		if !c.step(x) {
			f.wrong, f.held = true, 0
			return f.End()
		}
		f.taken++
		if c.left == 0 {
			f.held = 0
			continue
		}
		f.form[f.held] = x
		f.held++
	}
	return nil
}

// End tells whether what came is a right text.
func (f *Feeder) End() error {
	if f == nil {
		return api.ErrNil
	}
	return fault(f.taken, f.wrong, f.cursor())
}

// Place is how many bytes were taken.
func (f *Feeder) Place() int {
	if f == nil {
		return 0
	}
	return f.taken
}

// Held is how many of them belong to a form that is not whole.
func (f *Feeder) Held() int {
	if f == nil {
		return 0
	}
	return f.held
}

// cursor is where one stands behind what is held of a form.
func (f *Feeder) cursor() cursor {
	var c cursor
	for _, x := range f.form[:f.held] {
		c.step(x)
	}
	return c
}
