package ledger

import (
	"strconv"

	"affidavit/api"
	"affidavit/hmac"
	"affidavit/parse"
)

// word is the first part of a ledger's bytes.
const word = "affidavit ledger"

// Save is the ledger as bytes.
func (l *Ledger) Save() []byte {
	if l == nil {
		return nil
	}
	var parts [][]byte
	for _, e := range l.entries {
		form, _ := l.docs.Bytes(e.Doc)
		parts = append(parts, form, strconv.AppendInt(nil, e.Time, 10))
	}
	return hmac.Row([]byte(word), hmac.Row(parts...))
}

// saved are the parts of a ledger's bytes: of each entry its document, and its time; false, if these are no such bytes.
func saved(b []byte) ([][]byte, bool) {
	outer, err := hmac.Parts(b)
	if err != nil || len(outer) != 2 || string(outer[0]) != word {
		return nil, false
	}
	parts, err := hmac.Parts(outer[1])
	return parts, err == nil && len(parts)%2 == 0
}

// Open is the ledger of a charter of which these are the bytes.
func Open(c api.Charter, b []byte) (*Ledger, error) {
	l, err := New(c)
	if err != nil {
		return nil, err
	}
	parts, ok := saved(b)
	if !ok {
		return nil, api.ErrLedger
	}
	for i := 0; i < len(parts); i += 2 {
		if !l.reenter(parts[i], parts[i+1]) {
			return nil, api.Spot{Err: api.ErrLedger, At: i / 2}
		}
	}
	return l, nil
}

// reenter puts a saved document behind the others; false, if it may not stand there.
func (l *Ledger) reenter(form, time []byte) bool {
	t, err := parse.Strict(form, api.MaxDepth)
	if err != nil {
		return false
	}
	now, ok := toTime(string(time))
	if !ok || now < l.Time() {
		return false
	}
	if _, known := l.has(t); known {
		return false
	}
	return l.enter(t, now) == nil
}

// toTime is the time that digits tell, without noughts ahead of others.
func toTime(digits string) (int64, bool) {
	n, err := strconv.ParseInt(digits, 10, 64)
	return n, err == nil && isTime(n) && strconv.FormatInt(n, 10) == digits
}
