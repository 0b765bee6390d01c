package witness

import (
	"unicode/utf8"

	"affidavit/api"
	"affidavit/base"
	"affidavit/book"
	"affidavit/envelope"
	"affidavit/node"
	"affidavit/parse"
)

const (
	kind       = "head" // of a head's envelope
	mostOrigin = 256    // bytes of an origin
)

// isOrigin tells whether a text may be an origin.
func isOrigin(s string) bool { return s != "" && len(s) <= mostOrigin && utf8.ValidString(s) }

// isNumber tells whether a number may be a size, or a time.
func isNumber(n int) bool { return n >= 0 && n <= api.MaxTime }

// mayBe tells whether a head may be.
func mayBe(h api.Head) bool {
	return isOrigin(h.Origin) && isNumber(h.Size) && isNumber(h.Time) && (h.Size != 0 || h.Root == book.Empty())
}

// Tell is a head as a value.
func Tell(h api.Head) (*node.Tree, error) {
	if !mayBe(h) {
		return nil, api.ErrArg
	}
	m := node.New()
	for _, err := range []error{m.Text(h.Origin), m.Text(base.Digest(h.Root)), m.Number(float64(h.Size)), m.Number(float64(h.Time)), m.Object("origin", "root", "size", "time")} {
		if err != nil {
			return nil, err
		}
	}
	return m.Tree()
}

// Read is the head of a value.
func Read(t *node.Tree) (api.Head, error) {
	if t == nil {
		return api.Head{}, api.ErrNil
	}
	h, wrong, ok := read(t.Root())
	if !ok {
		return api.Head{}, api.Trail{Err: api.ErrHead, Pointer: wrong}
	}
	return h, nil
}

// read is the head of a value; or the pointer of what is wrong, and false.
func read(r node.Ref) (api.Head, string, bool) {
	origin, ok1 := r.Find("origin")
	root, ok2 := r.Find("root")
	size, ok3 := r.Find("size")
	time, ok4 := r.Find("time")
	if r.Len() != 4 || !ok1 || !ok2 || !ok3 || !ok4 {
		return api.Head{}, "", false
	}
	var h api.Head
	h.Origin, _ = origin.Text()
	letters, _ := root.Text()
	d, err := base.ToDigest(letters)
	h.Root = d
	var isSize, isTime bool
	h.Size, isSize = number(size)
	h.Time, isTime = number(time)
	switch {
	case !isOrigin(h.Origin):
		return api.Head{}, "/origin", false
	case err != nil || isSize && h.Size == 0 && d != book.Empty():
		return api.Head{}, "/root", false
	case !isSize:
		return api.Head{}, "/size", false
	case !isTime:
		return api.Head{}, "/time", false
	}
	return h, "", true
}

// number is a value as a size, or a time.
func number(r node.Ref) (int, bool) {
	x, ok := r.Number()
	if !ok || x < 0 || x > api.MaxTime || x != float64(int(x)) {
		return 0, false
	}
	return int(x), true
}

// Sign is a head's envelope.
func Sign(h api.Head, ring []api.Key) ([]byte, error) {
	t, err := Tell(h)
	if err != nil {
		return nil, err
	}
	return envelope.Seal(t, kind, ring)
}

// open is the head of an envelope, and the envelope's letter.
func open(b []byte) (api.Head, api.Letter, error) {
	letter, err := envelope.Read(b)
	if err != nil {
		return api.Head{}, api.Letter{}, err
	}
	if letter.Kind != kind {
		return api.Head{}, api.Letter{}, api.ErrKind
	}
	t, err := parse.Read(letter.Payload, api.MaxDepth)
	if err != nil {
		return api.Head{}, api.Letter{}, err
	}
	h, err := Read(t)
	if err != nil {
		return api.Head{}, api.Letter{}, err
	}
	return h, letter, nil
}

// ringMayBe tells whether a ring may be, and so many seals be needed: Open says so ahead of all else.
func ringMayBe(ring []api.Key, need int) bool {
	_, _, err := envelope.Open(nil, ring, need)
	return err != api.ErrArg
}

// trusted tells whether one of the seals of an envelope comes out by a ring, and none is false.
func trusted(b []byte, ring []api.Key) bool {
	_, trust, _ := envelope.Open(b, ring, 1)
	_, ok := trust.(api.Trusted)
	return ok
}

// Check is the head of an envelope, and how far it is trusted.
func Check(b []byte, ring []api.Key, need int) (api.Head, api.Trust, error) {
	if !ringMayBe(ring, need) {
		return api.Head{}, nil, api.ErrArg
	}
	h, _, err := open(b)
	if err != nil {
		return api.Head{}, nil, err
	}
	_, trust, err := envelope.Open(b, ring, need)
	if err != nil {
		return api.Head{}, nil, err
	}
	switch trust.(type) {
	case api.Trusted:
		return h, trust, nil
	}
	return api.Head{}, trust, nil
}
