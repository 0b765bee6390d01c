package dec

import (
	"strings"

	"affidavit/api"
)

// far is where exponents stop being counted: beyond it no literal's length leads back to MaxExp.
const far = 1 << 50

// A literal's parts: the digits ahead of the point and behind it, and the exponent.
type literal struct {
	neg         bool
	whole, part string
	exp         int
}

// read takes a literal apart. Each state leads on to the next one, and gives up at the first byte with which no literal begins.
func read(lit string) (literal, error) {
	var l literal
	down := false
	i, from := 0, 0
	if i < len(lit) && lit[i] == '-' {
		l.neg = true
		i++
	}
	from = i
	if i == len(lit) || !isDigit(lit[i]) {
		goto wrong
	}
	if lit[i] == '0' {
		i++
	} else {
		i = behindDigits(lit, i)
	}
	l.whole = lit[from:i]
	if i == len(lit) {
		goto done
	}
	if lit[i] != '.' {
		goto exponent
	}
	i++
	from = i
	if i = behindDigits(lit, i); i == from {
		goto wrong
	}
	l.part = lit[from:i]
	if i == len(lit) {
		goto done
	}
exponent:
	if lit[i] != 'e' && lit[i] != 'E' {
		goto wrong
	}
	i++
	if i < len(lit) && (lit[i] == '+' || lit[i] == '-') {
		down = lit[i] == '-'
		i++
	}
	from = i
	if i = behindDigits(lit, i); i == from || i < len(lit) {
		goto wrong
	}
	if l.exp = count(lit[from:]); down {
		l.exp = -l.exp
	}
done:
	return l, nil
wrong:
	return literal{}, api.Spot{Err: api.ErrForm, At: i}
}

func isDigit(c byte) bool { return c >= '0' && c <= '9' }

// behindDigits is the place of the first byte from i on that is no digit.
func behindDigits(s string, i int) int {
	for i < len(s) && isDigit(s[i]) {
		i++
	}
	return i
}

// count is the number of digits, or far, if it is above that.
func count(digits string) int {
	n := 0
	for _, c := range digits {
		n = min(n*10+int(c-'0'), far)
	}
	return n
}

// bare is the bare decimal of the same number; its exponent may be beyond MaxExp.
func (l literal) bare() api.Decimal {
	return bare(api.Decimal{Neg: l.neg, Digits: l.whole + l.part, Exp: l.exp - len(l.part)})
}

// bare is the decimal without noughts at the ends of its digits.
func bare(d api.Decimal) api.Decimal {
	digits := strings.TrimRight(d.Digits, "0")
	d.Exp += len(d.Digits) - len(digits)
	if d.Digits = strings.TrimLeft(digits, "0"); d.Digits == "" {
		return api.Decimal{}
	}
	return d
}

// mayBe tells whether a decimal may be.
func mayBe(d api.Decimal) bool {
	return behindDigits(d.Digits, 0) == len(d.Digits) && within(d.Exp)
}

func within(exp int) bool { return -api.MaxExp <= exp && exp <= api.MaxExp }

// sign is -1, 0 or 1, as a bare decimal is below nought, nought, above it.
func sign(d api.Decimal) int {
	switch {
	case d.Digits == "":
		return 0
	case d.Neg:
		return -1
	}
	return 1
}

// point is where the point of a bare decimal stands, counted from ahead of its first digit.
func point(d api.Decimal) int { return d.Exp + len(d.Digits) }

// compareSizes holds two bare decimals that are not nought against each other, whatever their signs.
func compareSizes(c, d api.Decimal) int {
	if point(c) != point(d) {
		return order(point(c), point(d))
	}
	return strings.Compare(c.Digits, d.Digits)
}

func order(a, b int) int {
	switch {
	case a < b:
		return -1
	case a > b:
		return 1
	}
	return 0
}
