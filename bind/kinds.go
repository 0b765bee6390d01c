package bind

import (
	"math"

	"affidavit/api"
	"affidavit/node"
	"affidavit/utf"
)

// bound is the value at a pointer, bound as a kind, or its fault.
func bound(r node.Ref, p string, k api.Kind) (api.Bound, error) {
	switch k {
	case api.KindC64, api.KindC128:
		return pair(r, p, k)
	case api.KindBytes, api.KindFloats:
		return row(r, p, k)
	}
	b, no := scalar(r, k)
	if no != api.OK {
		return nil, api.Trail{Err: no, Pointer: p}
	}
	return b, nil
}

// scalar is a value without values within it, bound as a kind of such, or what is wrong with it.
func scalar(r node.Ref, k api.Kind) (api.Bound, api.Errno) {
	s, ok := r.Scalar()
	if !ok {
		return nil, api.ErrSort
	}
	switch x := s.(type) {
	case api.Null:
		if k == api.KindEmpty {
			return api.Empty{}, api.OK
		}
	case api.Flag:
		if k == api.KindTruth {
			return api.Truth(x), api.OK
		}
	case api.Number:
		return number(float64(x), k)
	case api.Text:
		return text(string(x), k)
	}
	return nil, api.ErrSort
}

// text is a text, bound as a kind.
func text(s string, k api.Kind) (api.Bound, api.Errno) {
	switch k {
	case api.KindChars:
		return api.Chars(s), api.OK
	case api.KindRunes:
		return api.Runes([]rune(s)), api.OK
	case api.KindUnits:
		units, _ := utf.Units(s) // a tree's texts are right
		return api.Units(units), api.OK
	}
	return nil, api.ErrSort
}

// number is a number, bound as a kind.
func number(x float64, k api.Kind) (api.Bound, api.Errno) {
	switch k {
	case api.KindI8, api.KindI16, api.KindI32, api.KindI64:
		return signed(x, k)
	case api.KindU8, api.KindU16, api.KindU32, api.KindU64:
		return counted(x, k)
	case api.KindF32:
		y, no := single(x)
		if no != api.OK {
			return nil, no
		}
		return api.F32(y), api.OK
	case api.KindF64:
		return api.F64(x), api.OK
	}
	return nil, api.ErrSort
}

// signed is a number, bound as an integer that may be below 0.
func signed(x float64, k api.Kind) (api.Bound, api.Errno) {
	n, no := whole(x)
	if no != api.OK {
		return nil, no
	}
	switch k {
	case api.KindI8:
		if y := int8(n); int64(y) == n {
			return api.I8(y), api.OK
		}
	case api.KindI16:
		if y := int16(n); int64(y) == n {
			return api.I16(y), api.OK
		}
	case api.KindI32:
		if y := int32(n); int64(y) == n {
			return api.I32(y), api.OK
		}
	case api.KindI64:
		return api.I64(n), api.OK
	}
	return nil, api.ErrFit
}

// counted is a number, bound as an integer that is not below 0.
func counted(x float64, k api.Kind) (api.Bound, api.Errno) {
	n, no := count(x)
	if no != api.OK {
		return nil, no
	}
	switch k {
	case api.KindU8:
		if y := uint8(n); uint64(y) == n {
			return api.U8(y), api.OK
		}
	case api.KindU16:
		if y := uint16(n); uint64(y) == n {
			return api.U16(y), api.OK
		}
	case api.KindU32:
		if y := uint32(n); uint64(y) == n {
			return api.U32(y), api.OK
		}
	case api.KindU64:
		return api.U64(n), api.OK
	}
	return nil, api.ErrFit
}

// pair is a list of two numbers, bound as a complex one.
func pair(r node.Ref, p string, k api.Kind) (api.Bound, error) {
	switch {
	case r.Sort() != api.SortList:
		return nil, api.Trail{Err: api.ErrSort, Pointer: p}
	case r.Len() != 2:
		return nil, api.Trail{Err: api.ErrPair, Pointer: p}
	}
	parts, err := numbers(r, p)
	if err != nil {
		return nil, err
	}
	if k == api.KindC128 {
		return api.C128(complex(parts[0], parts[1])), nil
	}
	var singles [2]float32
	for i, x := range parts {
		y, no := single(x)
		if no != api.OK {
			return nil, api.Trail{Err: no, Pointer: at(p, i)}
		}
		singles[i] = y
	}
	return api.C64(complex(singles[0], singles[1])), nil
}

// numbers are a list's values, all of them numbers.
func numbers(r node.Ref, p string) ([]float64, error) {
	l := make([]float64, 0, r.Len())
	for i := range r.Len() {
		v, _ := r.At(i)
		x, ok := v.Number()
		if !ok {
			return nil, api.Trail{Err: api.ErrSort, Pointer: at(p, i)}
		}
		l = append(l, x)
	}
	return l, nil
}

// row is a list, bound as bytes or as floats.
func row(r node.Ref, p string, k api.Kind) (api.Bound, error) {
	if r.Sort() != api.SortList {
		return nil, api.Trail{Err: api.ErrSort, Pointer: p}
	}
	if k == api.KindFloats {
		l, err := numbers(r, p)
		if err != nil {
			return nil, err
		}
		return api.Floats(l), nil
	}
	bytes := make(api.Bytes, 0, r.Len())
	for i := range r.Len() {
		v, _ := r.At(i)
		b, no := scalar(v, api.KindU8)
		if no != api.OK {
			return nil, api.Trail{Err: no, Pointer: at(p, i)}
		}
		if x, ok := b.(api.U8); ok {
			bytes = append(bytes, uint8(x))
		}
	}
	return bytes, nil
}

// Whole is a float as an integer.
func Whole(x float64) (int64, error) {
	n, no := whole(x)
	return n, told(no)
}

// Count is a float as an integer that is not below 0.
func Count(x float64) (uint64, error) {
	n, no := count(x)
	return n, told(no)
}

// Single is a float rounded to one of 32 bits.
func Single(x float64) (float32, error) {
	y, no := single(x)
	return y, told(no)
}

// told is a number as an error; of OK there is none.
func told(no api.Errno) error {
	if no == api.OK {
		return nil
	}
	return no
}

// finite tells whether x is neither an infinity nor NaN.
func finite(x float64) bool { return !math.IsInf(x, 0) && !math.IsNaN(x) }

// between tells what is wrong with x as a whole number from low on that is below high.
func between(x, low, high float64) api.Errno {
	switch {
	case !finite(x):
		return api.ErrFit
	case x != math.Trunc(x):
		return api.ErrWhole
	case x < low || x >= high:
		return api.ErrFit
	}
	return api.OK
}

func whole(x float64) (int64, api.Errno) {
	no := between(x, -1<<63, 1<<63)
	if no != api.OK {
		return 0, no
	}
	return int64(x), api.OK
}

func count(x float64) (uint64, api.Errno) {
	no := between(x, 0, 1<<64)
	if no != api.OK {
		return 0, no
	}
	return uint64(x), api.OK
}

func single(x float64) (float32, api.Errno) {
	y := float32(x)
	if !finite(float64(y)) {
		return 0, api.ErrFit
	}
	return float32(unsigned(float64(y))), api.OK
}

// unsigned is x, nought without its sign.
func unsigned(x float64) float64 {
	if x == 0 {
		return 0
	}
	return x
}

// times is a product of complex numbers, each operation rounded by itself: the conversions keep them from being joined.
func times(y, z complex128) complex128 {
	a, b, c, d := real(y), imag(y), real(z), imag(z)
	ac, bd, ad, bc := float64(a*c), float64(b*d), float64(a*d), float64(b*c)
	return complex(float64(ac-bd), float64(ad+bc))
}
