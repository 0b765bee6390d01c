package ledger

import (
	"bytes"
	"slices"
	"unicode/utf8"

	"affidavit/api"
	"affidavit/claims"
	"affidavit/envelope"
)

const (
	headKind = "head" // of a head's envelope: a statement is never such
	mostText = 256    // bytes of an origin, of a kind
)

// isText tells whether a text may be an origin, or a kind.
func isText(s string) bool { return s != "" && len(s) <= mostText && utf8.ValidString(s) }

// isTime tells whether a number is a time.
func isTime(n int64) bool { return n >= 0 && n <= api.MaxTime }

// ringMayBe tells whether a ring may be: Open says so ahead of all else.
func ringMayBe(ring ...api.Key) bool {
	_, _, err := envelope.Open(nil, ring, 1)
	return err != api.ErrArg
}

// rulesMayBe tells whether rules may be.
func rulesMayBe(r api.Rules) bool {
	_, broken := claims.Judge(api.Claims{}, r).(*api.Broken)
	return !broken
}

// mayBe tells whether a charter may be.
func mayBe(c api.Charter) bool {
	named := func(k api.Key) bool { return k.Name == c.Own.Name }
	switch {
	case !isText(c.Origin), !isText(c.Kind), c.Kind == headKind, c.Kind == api.GrantKind:
		return false
	case len(c.Ring) == 0, !ringMayBe(c.Own), !ringMayBe(c.Ring...), slices.ContainsFunc(c.Ring, named):
		return false
	}
	return rulesMayBe(c.Rules)
}

// copyOf is a key in memory of its own.
func copyOf(k api.Key) api.Key { return api.Key{Name: k.Name, Secret: bytes.Clone(k.Secret)} }

// own is a charter in memory of its own.
func own(c api.Charter) api.Charter {
	ring := make([]api.Key, len(c.Ring))
	for i, k := range c.Ring {
		ring[i] = copyOf(k)
	}
	c.Own, c.Ring = copyOf(c.Own), ring
	c.Rules.By, c.Rules.Need, c.Rules.May = slices.Clone(c.Rules.By), slices.Clone(c.Rules.Need), nil
	return c
}

// rules are the charter's rules at a time, with what may be done.
func (l *Ledger) rules(now int64, may ...string) api.Rules {
	r := l.Rules
	r.Now, r.May = now, may
	return r
}
