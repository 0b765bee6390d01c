package desk

import (
	"strings"

	"affidavit/api"
	"affidavit/base"
	"affidavit/canon"
	"affidavit/node"
)

// What is told is put together as a text, not as a tree: it may be deeper, and longer, than a tree.

// list is the one form of a list.
func list(values ...string) string { return "[" + strings.Join(values, ",") + "]" }

// each is the one form of a list, each value of which is told alike.
func each[T any](l []T, tell func(T) string) string {
	values := make([]string, len(l))
	for i, x := range l {
		values[i] = tell(x)
	}
	return list(values...)
}

// ok is the answer of what goes well.
func ok(values ...string) string {
	return list(append([]string{text("ok")}, values...)...)
}

// text is the one form of a text.
func text(s string) string { return sure(canon.Quote(s)) }

// texts is the one form of a list of texts.
func texts(l []string) string { return each(l, text) }

// number is the one form of a number.
func number[N int | int64 | api.Sort | api.Errno](n N) string {
	return sure(canon.Number(float64(n)))
}

// flag is the one form of a flag.
func flag(b bool) string {
	if b {
		return "true"
	}
	return "false"
}

// hex is the one form of a digest.
func hex(d api.Digest) string { return text(base.Digest(d)) }

// hexes is the one form of a list of digests.
func hexes(l []api.Digest) string { return each(l, hex) }

// form is the one form of a value.
func form(t *node.Tree) string { return string(plain(t)) }

// errorOf tells an error.
func errorOf(err error) string {
	if e, is := err.(api.Errno); is {
		return list(number(e))
	}
	if e, is := err.(api.Spot); is {
		return list(number(e.Err), number(e.At))
	}
	if e, is := err.(api.Trail); is {
		return list(number(e.Err), text(e.Pointer))
	}
	all, _ := err.(api.All)
	return each(all, errorOf)
}

// verdict tells a verdict.
func verdict(v api.Verdict) string {
	switch x := v.(type) {
	case api.Holds:
		return list(text("holds"), number(x.Until))
	case api.Early:
		return list(text("early"), number(x.From))
	case api.Over:
		return list(text("over"), number(x.Until))
	case api.Lacks:
		return list(text("lacks"), text(x.Claim))
	case api.Alien:
		return list(text("alien"), text(x.By))
	case api.Other:
		return list(text("other"), texts(x.For))
	case api.Barred:
		return list(text("barred"), texts(x.May))
	case *api.Broken:
		if x != nil {
			return list(text("broken"), errorOf(x.Err))
		}
	}
	return list(text("broken"))
}

// trust tells how far an envelope is trusted.
func trust(t api.Trust) string {
	switch x := t.(type) {
	case api.Trusted:
		return list(text("trusted"), texts(x.By))
	case api.Weak:
		return list(text("weak"), texts(x.By), number(x.Need))
	case api.False:
		return list(text("false"), texts(x.By), texts(x.Not))
	}
	return list()
}

// standing tells how a statement stands.
func standing(s api.Standing) string {
	switch x := s.(type) {
	case api.Stands:
		return list(text("stands"), number(x.N), texts(x.By), number(x.Until))
	case api.Fails:
		return list(text("fails"), number(x.N), verdict(x.Why))
	case api.Breaks:
		return list(text("breaks"), number(x.N), errorOf(x.Err))
	case api.Doubts:
		return list(text("doubts"), number(x.N), trust(x.Trust))
	}
	return list()
}

// finding tells what a witness has found.
func finding(f api.Finding) string {
	switch x := f.(type) {
	case api.Fresh:
		return list(text("fresh"), text(x.Origin), number(x.Size))
	case api.Grown:
		return list(text("grown"), text(x.Origin), number(x.From), number(x.To))
	case api.Again:
		return list(text("again"), text(x.Origin), number(x.Size))
	case api.Stale:
		return list(text("stale"), text(x.Origin), number(x.Size), number(x.Have))
	case api.Split:
		return list(text("split"), text(x.Origin), number(x.Size), hex(x.Root), hex(x.Have))
	case api.Unproved:
		return list(text("unproved"), text(x.Origin), errorOf(x.Err))
	}
	return list()
}

// outcome tells what comes of a statement.
func outcome(o api.Outcome) string {
	switch x := o.(type) {
	case api.Entered:
		return list(text("entered"), number(x.Entry.Index), number(x.Entry.Time))
	case api.Known:
		return list(text("known"), number(x.Entry.Index), number(x.Entry.Time))
	case api.Doubted:
		return list(text("doubted"), standing(x.Why))
	case api.Declined:
		return list(text("declined"), verdict(x.Why))
	case *api.Full:
		return list(text("full"), errorOf(x.Err))
	}
	return list()
}
