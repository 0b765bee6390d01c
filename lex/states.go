package lex

import "affidavit/api"

// outside stands between tokens.
func outside(x *Lexer, c byte) api.Errno {
	switch c {
	case ' ', '\t', '\n', '\r':
	case '{', '}', '[', ']', ':', ',':
		x.start = x.taken
		x.put(api.Mark{Span: x.span(1), Sign: c})
	case '"':
		x.begin(text)
	case 'n':
		x.beginWord("null")
	case 't':
		x.beginWord("true")
	case 'f':
		x.beginWord("false")
	case '-':
		x.begin(minus)
		return x.goOn(minus, c, false)
	default:
		if !isDigit(c) {
			return api.ErrToken
		}
		x.begin(minus)
		return minus(x, c)
	}
	return api.OK
}

func isDigit(c byte) bool { return c >= '0' && c <= '9' }

// beginWord begins a word, whose first byte it is.
func (x *Lexer) beginWord(name string) {
	x.begin(word)
	x.said = append(x.said, name...)
	x.left = name[1:]
}

// word stands in the midst of a word.
func word(x *Lexer, c byte) api.Errno {
	if c != x.left[0] {
		return api.ErrToken
	}
	if x.left = x.left[1:]; x.left == "" {
		x.put(api.Term{Span: x.span(len(x.said)), Name: string(x.said)})
	}
	return api.OK
}

// goOn takes a number's byte; the number may end behind it, or not.
func (x *Lexer) goOn(s state, c byte, mayEnd bool) api.Errno {
	x.said = append(x.said, c)
	x.state, x.mayEnd = s, mayEnd
	return api.OK
}

// behind takes a byte that does not belong to the number ahead of it.
func behind(x *Lexer, c byte) api.Errno {
	if no := x.endNumber(); no != api.OK {
		return no
	}
	return outside(x, c)
}

// minus stands ahead of a number's first digit.
func minus(x *Lexer, c byte) api.Errno {
	switch {
	case c == '0':
		return x.goOn(nought, c, true)
	case isDigit(c):
		return x.goOn(whole, c, true)
	}
	return api.ErrToken
}

// whole stands behind a digit ahead of the point.
func whole(x *Lexer, c byte) api.Errno {
	if isDigit(c) {
		return x.goOn(whole, c, true)
	}
	return nought(x, c)
}

// nought stands behind the digits ahead of the point.
func nought(x *Lexer, c byte) api.Errno {
	if c == '.' {
		return x.goOn(point, c, false)
	}
	return behindDigits(x, c)
}

// behindDigits stands ahead of an exponent.
func behindDigits(x *Lexer, c byte) api.Errno {
	if c == 'e' || c == 'E' {
		return x.goOn(exponent, c, false)
	}
	return behind(x, c)
}

// point stands behind the point.
func point(x *Lexer, c byte) api.Errno {
	if isDigit(c) {
		return x.goOn(part, c, true)
	}
	return api.ErrToken
}

// part stands behind a digit that is behind the point.
func part(x *Lexer, c byte) api.Errno {
	if isDigit(c) {
		return x.goOn(part, c, true)
	}
	return behindDigits(x, c)
}

// exponent stands behind the e.
func exponent(x *Lexer, c byte) api.Errno {
	if c == '+' || c == '-' {
		return x.goOn(sign, c, false)
	}
	return sign(x, c)
}

// sign stands ahead of the exponent's first digit.
func sign(x *Lexer, c byte) api.Errno {
	if isDigit(c) {
		return x.goOn(power, c, true)
	}
	return api.ErrToken
}

// power stands behind a digit of the exponent.
func power(x *Lexer, c byte) api.Errno {
	if isDigit(c) {
		return x.goOn(power, c, true)
	}
	return behind(x, c)
}
