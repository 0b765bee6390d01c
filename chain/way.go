package chain

import (
	"slices"

	"affidavit/api"
	"affidavit/claims"
	"affidavit/envelope"
	"affidavit/node"
)

// way is how far one has come along grants: who holds keys, and what the last grant claims.
type way struct {
	rules   api.Rules
	holders []api.Key
	outer   api.Claims // those of the grant ahead
	until   int64

	// What is looked at now.
	n      int
	bytes  []byte
	kind   string
	tree   *node.Tree
	by     []string
	claims api.Claims
}

// along goes along grants; it tells where that ends, nil, if all of them stand.
func (w *way) along(grants [][]byte) api.Standing {
	steps := []func() api.Standing{w.open, w.read, w.judge, w.compare, w.pass}
	var end api.Standing
grants:
	for i, b := range grants {
		w.n, w.bytes = i, b
		for _, step := range steps {
			if end = step(); end != nil {
				break grants
			}
		}
	}
	return end
}

// open opens the envelope that is looked at.
func (w *way) open() api.Standing {
	tree, trust, err := envelope.Open(w.bytes, w.holders, 1)
	if err != nil {
		return api.Breaks{N: w.n, Err: err}
	}
	switch x := trust.(type) {
	case api.Trusted:
		w.by = x.Good()
	default:
		return api.Doubts{N: w.n, Trust: trust}
	}
	letter, _ := envelope.Read(w.bytes) // it was opened
	w.tree, w.kind = tree, letter.Kind
	return nil
}

// read reads what a grant claims.
func (w *way) read() api.Standing {
	if w.kind != api.GrantKind {
		return api.Breaks{N: w.n, Err: api.ErrGrant}
	}
	c, err := claims.Read(w.tree)
	if err != nil {
		return api.Breaks{N: w.n, Err: err}
	}
	w.claims = c
	return nil
}

// judge judges what a grant claims.
func (w *way) judge() api.Standing {
	v := claims.Judge(w.claims, api.Rules{Now: w.rules.Now, Slack: w.rules.Slack, Who: w.rules.Who, By: w.by, Need: append(ofGrant(), w.rules.Need...)})
	h, ok := v.(api.Holds)
	if !ok {
		return api.Fails{N: w.n, Why: v}
	}
	if h.Until >= 0 && (w.until < 0 || h.Until < w.until) {
		w.until = h.Until
	}
	return nil
}

// compare holds a grant against the one ahead.
func (w *way) compare() api.Standing {
	if !isName(w.claims.About) {
		return api.Breaks{N: w.n, Err: api.ErrGrant}
	}
	if w.n == 0 {
		return nil
	}
	if err := claims.Within(w.claims, w.outer); err != nil {
		return api.Breaks{N: w.n, Err: err}
	}
	return nil
}

// pass passes on to the one who holds the granted key.
func (w *way) pass() api.Standing {
	at := slices.IndexFunc(w.holders, func(k api.Key) bool { return k.Name == w.claims.By }) // one of those that are trusted
	w.holders = []api.Key{granted(w.holders[at], w.claims.About, w.bytes)}
	w.outer = w.claims
	return nil
}

// statement tells how the statement stands behind n grants.
func (w *way) statement(n int, b []byte) api.Standing {
	w.n, w.bytes = n, b
	if end := w.open(); end != nil {
		return end
	}
	barred := func(may []string) bool { return !slices.Contains(may, w.kind) }
	if n > 0 && barred(w.outer.May) || len(w.rules.May) > 0 && barred(w.rules.May) {
		return api.Fails{N: n, Why: api.Barred{May: []string{w.kind}}}
	}
	return api.Stands{N: n, By: w.by, Until: w.until}
}
