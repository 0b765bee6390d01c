package ledger

import (
	"strconv"

	"affidavit/api"
	"affidavit/book"
	"affidavit/digest"
	"affidavit/hmac"
	"affidavit/node"
	"affidavit/witness"
)

// aheadOfEntry is the first part of an entry's bytes.
const aheadOfEntry = "affidavit entry"

// Bytes are an entry's bytes.
func Bytes(e api.Entry) []byte {
	index, time := strconv.Itoa(e.Index), strconv.FormatInt(e.Time, 10)
	return hmac.Row([]byte(aheadOfEntry), e.Doc[:], e.Value[:], []byte(index), []byte(time))
}

// receipt is that of the entry at a place, as the ledger stands.
func (l *Ledger) receipt(i int) api.Receipt {
	head, _ := l.Head()
	proof, _ := l.book.Stands(i, l.Size())
	return api.Receipt{Entry: l.entries[i], Head: head, Proof: proof}
}

// Prove is the receipt of a document.
func (l *Ledger) Prove(doc api.Digest) (api.Receipt, error) {
	i, err := l.find(doc)
	if err != nil {
		return api.Receipt{}, err
	}
	return l.receipt(i), nil
}

// Part is the receipt of a document, and the proof of a part of it.
func (l *Ledger) Part(doc api.Digest, pointer string) (api.Receipt, api.Proof, error) {
	t, err := l.Document(doc)
	if err != nil {
		return api.Receipt{}, api.Proof{}, err
	}
	p, err := digest.Prove(t, pointer)
	if err != nil {
		return api.Receipt{}, api.Proof{}, err
	}
	return l.receipt(l.places[doc]), p, nil
}

// sealed is the head of a receipt, if one of the logs has sealed it.
func sealed(r api.Receipt, logs []api.Key) (api.Head, error) {
	h, trust, err := witness.Check(r.Head, logs, 1)
	if err != nil {
		return api.Head{}, err
	}
	if _, ok := trust.(api.Trusted); !ok {
		return api.Head{}, api.ErrSeal
	}
	return h, nil
}

// stands is nil, if the entry of a receipt stands in a head.
func stands(r api.Receipt, h api.Head) error {
	return book.CheckEntry(h.Root, h.Size, r.Entry.Index, book.Leaf(Bytes(r.Entry)), r.Proof)
}

// Check is nil, if a receipt proves a document.
func Check(r api.Receipt, t *node.Tree, logs []api.Key) error {
	if t == nil {
		return api.ErrNil
	}
	h, err := sealed(r, logs)
	if err != nil {
		return err
	}
	if doc, value := digests(t); r.Entry.Doc != doc || r.Entry.Value != value {
		return api.ErrPaper
	}
	return stands(r, h)
}

// CheckPart is nil, if a receipt and a proof prove a part of a document.
func CheckPart(r api.Receipt, pointer string, part *node.Tree, p api.Proof, logs []api.Key) error {
	if part == nil {
		return api.ErrNil
	}
	h, err := sealed(r, logs)
	if err != nil {
		return err
	}
	if err := digest.Check(r.Entry.Value, pointer, part, p); err != nil {
		return err
	}
	return stands(r, h)
}
