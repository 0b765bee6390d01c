package dec

import (
	"math"

	"affidavit/api"
	"affidavit/wide"
)

const (
	signBit  = 1 << 63
	infinite = 0x7FF << 52 // the bits of the float that would follow the greatest one: 2^1024
	mantissa = 53          // bits of a float, the hidden one too
	leastExp = -1074       // the exponent of two of a float's lowest bit is never less

	highPoint = 310  // a number whose point stands farther up is above all floats
	lowPoint  = -330 // one whose point stands farther down is below half the least float

	// No float and no number halfway between two has as many digits, so of further ones it counts only that there are some.
	enough = 800

	exactDigits = 15 // numbers of so many digits, and powers of ten up to this one, are floats
	exactPower  = 22
)

// A gap is where a number stands between the float at its foot and the next one up: whether it is that float, and whether it is nearer to it (-1), halfway, or nearer to the next one (1).
type gap struct {
	exact bool
	half  int
}

// known tells whether there is such a way.
func known(way api.Way) bool { return way >= api.WayEven && way <= api.WayUp }

// round are the bits to which a bare decimal rounds that way.
func round(d api.Decimal, way api.Way) (uint64, error) {
	if d.Digits == "" {
		return 0, nil
	}
	bits, ok := quick(d, way)
	if !ok {
		foot, g := floor(d)
		if bits = foot; goesUp(g, way, d.Neg, foot&1 == 1) {
			bits++
		}
		switch {
		case bits < infinite:
		case foot >= infinite && inward(way, d.Neg):
			bits = infinite - 1
		default:
			return 0, api.ErrRange
		}
	}
	if d.Neg && bits != 0 {
		bits |= signBit
	}
	return bits, nil
}

// quick rounds a decimal of few digits by one operation of floats, which rounds to the even one.
func quick(d api.Decimal, way api.Way) (uint64, bool) {
	if way != api.WayEven || len(d.Digits) > exactDigits || d.Exp > exactPower || d.Exp < -exactPower {
		return 0, false
	}
	x, power := 0.0, 1.0
	for _, c := range d.Digits {
		x = x*10 + float64(c-'0')
	}
	for range max(d.Exp, -d.Exp) {
		power *= 10
	}
	if d.Exp < 0 {
		return math.Float64bits(x / power), true
	}
	return math.Float64bits(x * power), true
}

// inward tells whether the way leads to nought, for numbers of that sign.
func inward(way api.Way, neg bool) bool {
	return way == api.WayZero || way == api.WayDown && !neg || way == api.WayUp && neg
}

// goesUp tells whether a number in a gap rounds to the float farther from nought.
func goesUp(g gap, way api.Way, neg, odd bool) bool {
	if g.exact || inward(way, neg) {
		return false
	}
	switch way {
	case api.WayEven:
		if g.half == 0 && !odd {
			return false
		}
		fallthrough
	case api.WayAway:
		return g.half >= 0
	}
	return true
}

// floor are the bits of the greatest float that is not above the size of a bare decimal, and how it stands to that; infinite, if the size is 2^1024 or more.
func floor(d api.Decimal) (uint64, gap) {
	switch {
	case point(d) > highPoint:
		return infinite, gap{exact: true}
	case point(d) < lowPoint:
		return 0, gap{half: -1}
	}
	num, den := fraction(d)
	exp := max(num.Len()-den.Len()-mantissa, leastExp)
	q, left, unit := divide(num, den, exp)
	if q.Len() > mantissa {
		exp++
		q, left, unit = divide(num, den, exp)
	}
	word, _ := q.Word()
	twice, _ := left.Shl(1)
	// The hidden bit of a word adds one to the exponent's bits.
	return min(uint64(exp-leastExp)<<(mantissa-1)+word, infinite), gap{left.Len() == 0, twice.Cmp(unit)}
}

// fraction is the size of a bare decimal whose point stands near enough: a number, and what it is divided by. Of digits that are too many it is another one in the same gap.
func fraction(d api.Decimal) (wide.Nat, wide.Nat) {
	if len(d.Digits) > enough {
		d.Exp += len(d.Digits) - enough - 1
		d.Digits = d.Digits[:enough] + "1"
	}
	num, _ := wide.Parse(d.Digits)
	if d.Exp < 0 {
		den, _ := wide.Power(10, -d.Exp)
		return num, den
	}
	power, _ := wide.Power(10, d.Exp)
	num, _ = num.Mul(power)
	return num, wide.Of(1)
}

// divide is num divided by den and by 2^exp, rounded down; what is left; and of what that is a part.
func divide(num, den wide.Nat, exp int) (wide.Nat, wide.Nat, wide.Nat) {
	num, _ = num.Shl(-exp)
	den, _ = den.Shl(exp)
	q, left, _ := num.Divide(den)
	return q, left, den
}

// signOf is -1, 0 or 1, as the float of these bits is below nought, nought, above it.
func signOf(bits uint64) int {
	switch {
	case bits&^signBit == 0:
		return 0
	case bits >= signBit:
		return -1
	}
	return 1
}

// against holds a bare decimal's size against that of the float of these bits, which is not nought.
func against(d api.Decimal, bits uint64) int {
	switch {
	case point(d) > highPoint:
		return 1
	case point(d) < lowPoint:
		return -1
	}
	num, den := fraction(d)
	word, exp := bits&(1<<(mantissa-1)-1), int(bits>>(mantissa-1))
	if exp > 0 {
		word |= 1 << (mantissa - 1)
		exp--
	}
	exp += leastExp
	num, _ = num.Shl(-exp)
	den, _ = den.Shl(exp)
	size, _ := den.Times(word)
	return num.Cmp(size)
}
