package store

import (
	"affidavit/api"
	"affidavit/hmac"
	"affidavit/parse"
	"affidavit/sha"
	"affidavit/utf"
)

// word is the first part of a store's bytes.
const word = "affidavit store"

// Save is the store as bytes.
func (s *Store) Save() []byte {
	if s == nil {
		return nil
	}
	s.lock.RLock()
	defer s.lock.RUnlock()
	var docs, names [][]byte
	for _, d := range rising(s.docs) {
		docs = append(docs, s.docs[d].form)
	}
	for _, n := range s.named() {
		names = append(names, []byte(n.Name), n.Digest[:])
	}
	return hmac.Row([]byte(word), hmac.Row(docs...), hmac.Row(names...))
}

// Open is the store of which these are the bytes.
func Open(b []byte) (*Store, error) {
	parts, err := hmac.Parts(b)
	if at, ok := err.(api.Spot); ok {
		return nil, api.Spot{Err: api.ErrStore, At: at.At}
	}
	s := New()
	readers := []func([]byte) bool{isWord, s.readDocs, s.readNames}
	for i, read := range readers {
		if i < len(parts) && !read(parts[i]) {
			return nil, api.Spot{Err: api.ErrStore, At: i}
		}
	}
	if len(parts) != len(readers) {
		return nil, api.Spot{Err: api.ErrStore, At: len(readers)}
	}
	s.changes.Store(0)
	return s, nil
}

// isWord tells whether a part is the first one.
func isWord(part []byte) bool { return string(part) == word }

// readDocs reads the documents, which stand by rising digests; false, if they are not such.
func (s *Store) readDocs(part []byte) bool {
	docs, err := hmac.Parts(part)
	if err != nil {
		return false
	}
	var last api.Digest // no document has the zero digest
	for _, form := range docs {
		t, err := parse.Strict(form, api.MaxDepth)
		if err != nil {
			return false
		}
		d, err := s.Put(t)
		if err != nil || sha.Compare(last, d) >= 0 {
			return false
		}
		last = d
	}
	return true
}

// readNames reads the names, which stand rising, and where they lead; false, if they are not such.
func (s *Store) readNames(part []byte) bool {
	parts, err := hmac.Parts(part)
	if err != nil || len(parts)%2 != 0 {
		return false
	}
	for i := 0; i < len(parts); i += 2 {
		name, to := string(parts[i]), parts[i+1]
		falls := i > 0 && utf.Compare(string(parts[i-2]), name) >= 0
		if falls || len(to) != len(api.Digest{}) || api.Digest(to) == (api.Digest{}) {
			return false
		}
		if s.Set(name, api.Digest{}, api.Digest(to)) != nil {
			return false
		}
	}
	return true
}
