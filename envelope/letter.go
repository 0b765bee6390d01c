package envelope

import (
	"slices"
	"strconv"
	"unicode/utf8"

	"affidavit/api"
	"affidavit/base"
	"affidavit/canon"
	"affidavit/hmac"
	"affidavit/keys"
	"affidavit/node"
	"affidavit/parse"
)

const (
	word      = "affidavit/1" // what is sealed begins with it
	depth     = 4             // how deep an envelope is
	mostKind  = 256           // bytes of a kind
	mostName  = 64            // bytes of a name
	leastKey  = 16            // bytes of a secret
	mostKey   = 4096
	sealBytes = len(api.Digest{})
)

// seal is a seal, with the name of its key.
type seal struct {
	name string
	sum  api.Digest
}

// letter is what an envelope has; its seals stand by rising names.
type letter struct {
	kind  string
	form  []byte // the one form of the value
	value *node.Tree
	seals []seal
}

// isText tells whether a text is a right one, of one byte to so many.
func isText(s string, most int) bool { return s != "" && len(s) <= most && utf8.ValidString(s) }

// mayBe tells whether a key may be.
func mayBe(k api.Key) bool {
	return isText(k.Name, mostName) && len(k.Secret) >= leastKey && len(k.Secret) <= mostKey
}

// ringMayBe tells whether a ring may be.
func ringMayBe(ring []api.Key) bool {
	if len(ring) > api.MaxKeys {
		return false
	}
	for i, k := range ring {
		named := func(other api.Key) bool { return other.Name == k.Name }
		if !mayBe(k) || slices.ContainsFunc(ring[:i], named) {
			return false
		}
	}
	return true
}

// sealBy is a key's seal of the letter.
func (l *letter) sealBy(k api.Key) api.Digest {
	return hmac.Sum(k.Secret, hmac.Row([]byte(word), []byte(l.kind), l.form))
}

// find is the place of the seal of a name, -1, if there is none.
func (l *letter) find(name string) int {
	return slices.IndexFunc(l.seals, func(s seal) bool { return s.name == name })
}

// put puts a seal in its place among the others.
func (l *letter) put(s seal) {
	at := slices.IndexFunc(l.seals, func(other seal) bool { return keys.Ahead(s.name, other.name) })
	if at < 0 {
		at = len(l.seals)
	}
	l.seals = slices.Insert(l.seals, at, s)
}

// names are the names of the seals.
func (l *letter) names() []string {
	var names []string
	for _, s := range l.seals {
		names = append(names, s.name)
	}
	return names
}

// bytes is the envelope; ErrLong, if that is not within the limits.
func (l *letter) bytes() ([]byte, error) {
	if len(l.seals) > api.MaxKeys {
		return nil, api.ErrLong
	}
	m := node.New()
	errs := []error{m.Text(l.kind), m.Text(base.Web(l.form))}
	for _, s := range l.seals {
		errs = append(errs, m.Text(s.name), m.Text(base.Web(s.sum[:])), m.Object("name", "seal"))
	}
	errs = append(errs, m.List(len(l.seals)), m.Object("kind", "payload", "seals"))
	for _, err := range errs {
		if err != nil {
			return nil, api.ErrLong
		}
	}
	t, err := m.Tree()
	if err != nil {
		return nil, err
	}
	return canon.Bytes(t)
}

// open is the letter of an envelope.
func open(b []byte) (*letter, error) {
	t, err := parse.Strict(b, depth)
	if err != nil {
		return nil, err
	}
	l := &letter{}
	readers := []func(node.Ref) string{l.readKind, l.readPayload, l.readSeals}
	members, ok := only(t.Root(), "kind", "payload", "seals")
	if !ok {
		return nil, api.Trail{Err: api.ErrEnvelope}
	}
	for i, read := range readers {
		if at := read(members[i]); at != "" {
			return nil, api.Trail{Err: api.ErrEnvelope, Pointer: at}
		}
	}
	return l, nil
}

// only are the values of an object's members under these keys, if it has just these.
func only(r node.Ref, names ...string) ([]node.Ref, bool) {
	var values []node.Ref
	for _, name := range names {
		v, ok := r.Find(name)
		if !ok {
			return nil, false
		}
		values = append(values, v)
	}
	return values, r.Len() == len(names)
}

// readKind reads the kind; it tells the pointer of what is wrong, if something is, as those below do.
func (l *letter) readKind(r node.Ref) string {
	l.kind, _ = r.Text()
	if !isText(l.kind, mostKind) {
		return "/kind"
	}
	return ""
}

// readPayload reads the payload, and the value that it says.
func (l *letter) readPayload(r node.Ref) string {
	text, ok := r.Text()
	form, err := base.Read(api.Web, text)
	if !ok || err != nil {
		return "/payload"
	}
	if l.value, err = parse.Strict(form, api.MaxDepth); err != nil {
		return "/payload"
	}
	l.form = form
	return ""
}

// readSeals reads the seals.
func (l *letter) readSeals(r node.Ref) string {
	if r.Sort() != api.SortList || r.Len() < 1 || r.Len() > api.MaxKeys {
		return "/seals"
	}
	for i := range r.Len() {
		v, _ := r.At(i)
		if at := l.readSeal(v, "/seals/"+strconv.Itoa(i)); at != "" {
			return at
		}
	}
	return ""
}

// readSeal reads the seal at a pointer.
func (l *letter) readSeal(r node.Ref, at string) string {
	members, ok := only(r, "name", "seal")
	if !ok {
		return at
	}
	name, _ := members[0].Text()
	if !isText(name, mostName) {
		return at + "/name"
	}
	if n := len(l.seals); n > 0 && !keys.Ahead(l.seals[n-1].name, name) {
		return at
	}
	text, _ := members[1].Text()
	sum, err := base.Read(api.Web, text)
	if err != nil || len(sum) != sealBytes {
		return at + "/seal"
	}
	l.seals = append(l.seals, seal{name, api.Digest(sum)})
	return ""
}
