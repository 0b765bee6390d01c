package lex

import (
	"strings"
	"unicode/utf8"

	"affidavit/api"
)

const (
	firstHigh = 0xD800
	firstLow  = 0xDC00
	lastLow   = 0xDFFF
	beyond    = 0x10000 // the first character that has two units
)

// What the bytes behind a backslash say, one by one.
const (
	escapes = `"\/bfnrt`
	escaped = "\"\\/\b\f\n\r\t"
)

// text stands between pieces.
func text(x *Lexer, c byte) api.Errno {
	switch {
	case c == '"':
		x.put(api.Str{Span: x.span(x.taken + 1 - x.start), Text: string(x.said)})
	case c == '\\':
		x.state = escape
	case c < ' ':
		return api.ErrControl
	case c < utf8.RuneSelf:
		x.said = append(x.said, c)
	default:
		return form(x, c)
	}
	return api.OK
}

// form stands in a character's form.
func form(x *Lexer, c byte) api.Errno {
	x.one[0] = c
	if x.form.Feed(x.one[:]) != nil {
		return api.ErrChar
	}
	x.said = append(x.said, c)
	if x.state = form; x.form.Held() == 0 {
		x.state = text
	}
	return api.OK
}

// escape stands behind a backslash.
func escape(x *Lexer, c byte) api.Errno {
	if c == 'u' {
		x.high = 0
		return x.beginDigits()
	}
	i := strings.IndexByte(escapes, c)
	if i < 0 {
		return api.ErrEscape
	}
	x.said = append(x.said, escaped[i])
	x.state = text
	return api.OK
}

// beginDigits begins the four digits of an escape.
func (x *Lexer) beginDigits() api.Errno {
	x.code, x.digits, x.state = 0, 0, digit
	return api.OK
}

// digit stands ahead of one of the four digits of an escape.
func digit(x *Lexer, c byte) api.Errno {
	d, ok := hexDigit(c)
	x.code = x.code<<4 | d
	x.digits++
	// What the four digits can say, as far as they came.
	open := 4 * (4 - x.digits)
	from, to := x.code<<open, (x.code+1)<<open-1
	switch {
	case x.high != 0 && (!ok || to < firstLow || from > lastLow):
		return api.ErrLone
	case !ok:
		return api.ErrEscape
	case x.high == 0 && from >= firstLow && to <= lastLow:
		return api.ErrLone
	case x.digits == 4:
		x.endDigits()
	}
	return api.OK
}

// endDigits takes the number of the four digits: a character, or half of one.
func (x *Lexer) endDigits() {
	x.state = text
	switch {
	case x.high != 0:
		x.said = utf8.AppendRune(x.said, beyond+(x.high-firstHigh)<<10+x.code-firstLow)
	case x.code >= firstHigh && x.code < firstLow:
		x.high, x.state = x.code, lone
	default:
		x.said = utf8.AppendRune(x.said, x.code)
	}
}

// lone stands behind the escape of a high unit.
func lone(x *Lexer, c byte) api.Errno {
	if c != '\\' {
		return api.ErrLone
	}
	x.state = lonely
	return api.OK
}

// lonely stands behind the backslash that is behind the escape of a high unit.
func lonely(x *Lexer, c byte) api.Errno {
	if c != 'u' {
		return api.ErrLone
	}
	return x.beginDigits()
}

// hexDigit is the number of a hexadecimal digit.
func hexDigit(c byte) (rune, bool) {
	switch {
	case isDigit(c):
		return rune(c - '0'), true
	case c >= 'a' && c <= 'f':
		return rune(c-'a') + 10, true
	case c >= 'A' && c <= 'F':
		return rune(c-'A') + 10, true
	}
	return 0, false
}
