package query

import (
	"strings"

	"affidavit/api"
	"affidavit/lex"
)

// The kinds of tokens.
const (
	theEnd = iota
	aSign
	aName
	aNumber
	aText
)

// token is a token of a question: a sign or a name by its bytes, a number by its bytes, a text by what it says.
type token struct {
	kind int
	at   int
	word string
}

// signs are all signs; of two that begin alike the longer one stands ahead.
const signs = "$ @ .. . * [ ] , : ? ( ) != ! && || == <= < >= >"

// is tells whether the token is a sign.
func (t token) is(sign string) bool { return t.kind == aSign && t.word == sign }

// fail gives up.
func fail(no api.Errno, at int) { panic(api.Spot{Err: no, At: at}) }

// scan is the token that stands at a place, behind blanks, and the place behind it.
func scan(text string, at int) (token, int) {
	for at < len(text) && text[at] == ' ' {
		at++
	}
	if at == len(text) {
		return token{kind: theEnd, at: at}, at
	}
	switch c := text[at]; {
	case isLetter(c):
		end := at + 1
		for end < len(text) && (isLetter(text[end]) || isDigit(text[end])) {
			end++
		}
		return token{aName, at, text[at:end]}, end
	case isDigit(c) || c == '-' || c == '"':
		return leaf(text, at)
	}
	for _, sign := range strings.Fields(signs) {
		if strings.HasPrefix(text[at:], sign) {
			return token{aSign, at, sign}, at + len(sign)
		}
	}
	fail(api.ErrQuery, at)
	return token{}, 0
}

func isLetter(c byte) bool {
	return c == '_' || c >= 'a' && c <= 'z' || c >= 'A' && c <= 'Z'
}

func isDigit(c byte) bool { return c >= '0' && c <= '9' }

// leaf is the number or text that stands at a place, as a lexer tells it. A number ends with the byte behind it, whatever the lexer says of that one.
func leaf(text string, at int) (token, int) {
	x := lex.New()
	var err error
	for end := at; end <= len(text); end++ {
		if end == len(text) {
			err = x.End()
		} else {
			err = x.Feed([]byte{text[end]})
		}
		switch t, _ := x.Next(); l := t.(type) {
		case api.Num:
			return token{aNumber, at, text[at : at+l.Width()]}, at + l.Width()
		case api.Str:
			return token{aText, at, l.Text}, at + l.Width()
		}
		if s, ok := err.(api.Spot); ok {
			fail(s.Err, at+s.At)
		}
	}
	return token{}, 0
}
