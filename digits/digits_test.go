package digits_test

import (
	"errors"
	"math"
	"math/big"
	"math/rand"
	"strconv"
	"strings"
	"testing"

	"affidavit/api"
	"affidavit/digits"
)

var edges = []uint64{
	0, 1, 2, 3, 4, 5, 9, 10, 99, 1<<52 - 1, 1 << 52, 1<<52 + 1, 1<<53 - 1, 1 << 53, 1<<53 + 1, 0x3FF << 52, 0x3FF<<52 - 1, 0x3FF<<52 + 1,
	0x7FEFFFFFFFFFFFFF, 0x7FEFFFFFFFFFFFFE, 0x7FE << 52, 0x4340000000000000, 0x4340000000000001, 0x433FFFFFFFFFFFFF, 0x4330000000000000, 0x4320000000000001,
}

// sizes are bits without a sign, many of them of floats with few digits.
func sizes(r *rand.Rand, n int) []uint64 {
	l := append([]uint64(nil), edges...)
	for range n {
		switch r.Intn(5) {
		case 0:
			l = append(l, r.Uint64()%(0x7FF<<52))
		case 1:
			x, _ := strconv.ParseFloat(strconv.Itoa(r.Intn(100000))+"e"+strconv.Itoa(r.Intn(600)-300), 64)
			l = append(l, math.Float64bits(x))
		case 2:
			l = append(l, uint64(r.Intn(0x7FF))<<52) // powers of two, and nearly so
		case 3:
			l = append(l, math.Float64bits(float64(r.Int63n(1<<60))/float64(int(1)<<uint(r.Intn(12)))))
		default:
			l = append(l, uint64(r.Intn(1<<20)))
		}
	}
	return l
}

func rat(t *testing.T, s string) *big.Rat {
	t.Helper()
	x, ok := new(big.Rat).SetString(s)
	if !ok {
		t.Fatalf("%q", s)
	}
	return x
}

// sizeOf is a size, 2^1024 of the bits behind the greatest float.
func sizeOf(bits uint64) *big.Rat {
	if bits == 0x7FF<<52 {
		return new(big.Rat).SetInt(new(big.Int).Lsh(big.NewInt(1), 1024))
	}
	return new(big.Rat).SetFloat64(math.Float64frombits(bits))
}

// said is the number that a row with its exponent says.
func said(t *testing.T, row string, n int) *big.Rat {
	t.Helper()
	if row != "0" && row != strings.Trim(row, "0") || row == "" {
		t.Fatalf("%q is no row", row)
	}
	return rat(t, "0."+row+"e"+strconv.Itoa(n))
}

func TestExact(t *testing.T) {
	for x, want := range map[float64]string{
		0.5: "0.5", -2.25: "-2.25", 0.1: "0.1000000000000000055511151231257827021181583404541015625", math.Copysign(0, -1): "0", 1e22: "10000000000000000000000", -3: "-3", 1 << 60: "1152921504606846976", 0.0078125: "0.0078125",
	} {
		if s, err := digits.Exact(math.Float64bits(x)); s != want || err != nil {
			t.Errorf("Exact(%v): %s, %v", x, s, err)
		}
	}
	r := rand.New(rand.NewSource(1))
	for _, bits := range sizes(r, 2000) {
		s, err := digits.Exact(bits)
		x := math.Float64frombits(bits)
		if err != nil || s != strings.TrimSuffix(strings.TrimRight(sizeOf(bits).FloatString(1080), "0"), ".") {
			t.Fatalf("Exact(%v): %s, %v", x, s, err)
		}
		if m, err := digits.Exact(bits | 1<<63); err != nil || bits != 0 && m != "-"+s {
			t.Fatalf("Exact(-%v): %s, %v", x, m, err)
		}
	}
}

func TestAround(t *testing.T) {
	a, err := digits.Around(math.Float64bits(-1))
	if err != nil || a != (api.Reach{From: "0.999999999999999944488848768742172978818416595458984375", To: "1.00000000000000011102230246251565404236316680908203125", Closed: true}) {
		t.Errorf("Around of -1: %v, %v", a, err)
	}
	if a, err = digits.Around(0x4340000000000001); err != nil || a != (api.Reach{From: "9007199254740993", To: "9007199254740995"}) {
		t.Errorf("Around of 2^53 + 2: %v, %v", a, err)
	}
	if a, err = digits.Around(1 << 63); err != nil || a.From != "0" || len(a.To) != 1077 || !a.Closed {
		t.Errorf("Around of nought: %v, %v", a, err)
	}
	r := rand.New(rand.NewSource(2))
	half := big.NewRat(1, 2)
	for _, bits := range sizes(r, 1000) {
		a, err := digits.Around(bits)
		high := new(big.Rat).Add(sizeOf(bits), sizeOf(bits+1))
		low := new(big.Rat)
		if bits > 0 {
			low.Add(sizeOf(bits), sizeOf(bits-1))
		}
		if err != nil || rat(t, a.From).Cmp(low.Mul(low, half)) != 0 || rat(t, a.To).Cmp(high.Mul(high, half)) != 0 || a.Closed != (bits&1 == 0) {
			t.Fatalf("Around(%x): %v, %v", bits, a, err)
		}
		if strings.Contains(a.From, ".") && strings.HasSuffix(a.From, "0") || strings.Contains(a.To, ".") && strings.HasSuffix(a.To, "0") {
			t.Fatalf("Around(%x): %v", bits, a)
		}
		if bits == 0x7FEFFFFFFFFFFFFF {
			continue
		}
		if next, _ := digits.Around(bits + 1); next.From != a.To || next.Closed == a.Closed {
			t.Fatalf("Around(%x) and the next one: %v, %v", bits, a, next)
		}
	}
}

func inside(t *testing.T, a api.Reach, x *big.Rat) bool {
	low, high := rat(t, a.From).Cmp(x), rat(t, a.To).Cmp(x)
	return low < 0 && high > 0 || a.Closed && low <= 0 && high >= 0
}

// fewest is Shortest by the words of the document: for rising numbers of digits the numbers next to the size are looked at.
func fewest(t *testing.T, bits uint64) (string, int) {
	a, _ := digits.Around(bits)
	x := sizeOf(bits)
	s := x.FloatString(1200)
	n := strings.IndexByte(s, '.')
	if s[0] == '0' {
		n = -strings.IndexFunc(s[2:], func(c rune) bool { return c != '0' })
	}
	for k := 1; ; k++ {
		power := new(big.Rat).SetInt(new(big.Int).Exp(big.NewInt(10), big.NewInt(int64(max(n-k, k-n))), nil))
		if n-k > 0 {
			power.Inv(power)
		}
		scaled := new(big.Rat).Mul(x, power)
		low := new(big.Int).Quo(scaled.Num(), scaled.Denom())
		best, bestAway := "", new(big.Rat)
		for d := range 2 {
			c := new(big.Int).Add(low, big.NewInt(int64(d)))
			back := new(big.Rat).Quo(new(big.Rat).SetInt(c), power)
			away := new(big.Rat).Sub(back, x)
			away.Abs(away)
			if !inside(t, a, back) {
				continue
			}
			if best == "" || away.Cmp(bestAway) < 0 || away.Cmp(bestAway) == 0 && c.Bit(0) == 0 {
				best, bestAway = c.String(), away
			}
		}
		if best != "" {
			return strings.TrimRight(best, "0"), n + len(best) - k
		}
	}
}

func TestShortest(t *testing.T) {
	for _, c := range []struct {
		x   float64
		row string
		n   int
	}{
		{1, "1", 1}, {0.1, "1", 0}, {100, "1", 3}, {123.456, "123456", 3}, {5e-324, "5", -323}, {0, "0", 1}, {math.Copysign(0, -1), "0", 1}, {1 << 53, "9007199254740992", 16}, {1<<50 + 0.25, "11258999068426242", 16},
		{-2.5, "25", 1}, {1.7976931348623157e308, "17976931348623157", 309}, {9007199254740993, "9007199254740992", 16}, {2.2250738585072014e-308, "22250738585072014", -307}, {1e23, "1", 24}, {9.5367431640625e-7, "95367431640625", -6}, {1.2345e-300, "12345", -299}, {9.9e-324, "1", -322},
	} {
		if row, n, err := digits.Shortest(math.Float64bits(c.x)); row != c.row || n != c.n || err != nil {
			t.Errorf("Shortest(%v): %s with %d, %v", c.x, row, n, err)
		}
	}
	r := rand.New(rand.NewSource(3))
	for _, bits := range sizes(r, 2500) {
		row, n, err := digits.Shortest(bits)
		turned, m, err2 := digits.Shortest(bits | 1<<63)
		if err != nil || err2 != nil || row != turned || n != m || len(row) > 17 {
			t.Fatalf("Shortest(%x): %s with %d, %v", bits, row, n, err)
		}
		x := said(t, row, n)
		a, _ := digits.Around(bits)
		if !inside(t, a, x) {
			t.Fatalf("Shortest(%x): %s with %d is not within", bits, row, n)
		}
		if bits == 0 {
			continue
		}
		if want, m := fewest(t, bits); row != want || n != m {
			t.Fatalf("Shortest(%x): %s with %d, want %s with %d", bits, row, n, want, m)
		}
	}
}

// TestShortestMany holds many floats against the library's fewest digits.
func TestShortestMany(t *testing.T) {
	r := rand.New(rand.NewSource(4))
	for _, bits := range sizes(r, 20000) {
		if bits == 0 {
			continue
		}
		row, n, _ := digits.Shortest(bits)
		s := strconv.FormatFloat(math.Float64frombits(bits), 'e', -1, 64)
		mant, exp, _ := strings.Cut(s, "e")
		e, _ := strconv.Atoi(exp)
		want := strings.TrimRight(strings.Replace(mant, ".", "", 1), "0")
		if len(row) != len(want) || n != e+1 {
			t.Fatalf("Shortest(%x): %s with %d, want %s with %d", bits, row, n, want, e+1)
		}
		if x, err := strconv.ParseFloat("0."+row+"e"+strconv.Itoa(n), 64); err != nil || math.Float64bits(x) != bits {
			t.Fatalf("Shortest(%x): %s with %d leads to %v", bits, row, n, x)
		}
	}
}

// layout is ECMAScript's, made of the library's digits.
func layout(x float64) string {
	if x == 0 {
		return "0"
	}
	if a := math.Abs(x); a >= 1e-6 && a < 1e21 {
		return strconv.FormatFloat(x, 'f', -1, 64)
	}
	s := strconv.FormatFloat(x, 'e', -1, 64)
	mant, exp, _ := strings.Cut(s, "e")
	return mant + "e" + exp[:1] + strings.TrimLeft(exp[1:], "0")
}

func TestText(t *testing.T) {
	for x, want := range map[float64]string{
		1e21: "1e+21", 1e20: "100000000000000000000", 1e-6: "0.000001", 1e-7: "1e-7", math.Copysign(0, -1): "0", 0.000001234: "0.000001234", 1.5e300: "1.5e+300", 333333333.33333329: "333333333.3333333", 1.7976931348623157e308: "1.7976931348623157e+308", -2.5: "-2.5",
		0: "0", 1: "1", -1e21: "-1e+21", 123456789012345680000: "123456789012345680000", 1.2e21: "1.2e+21", 1.2e-7: "1.2e-7", 5e-324: "5e-324", -0.5: "-0.5", 999999999999999900000: "999999999999999900000", 10: "10", 12.5: "12.5", 1e100: "1e+100", -1.5e-10: "-1.5e-10",
	} {
		if s, err := digits.Text(x); s != want || err != nil {
			t.Errorf("Text(%v): %s, %v", x, s, err)
		}
	}
	r := rand.New(rand.NewSource(5))
	for _, bits := range sizes(r, 20000) {
		for _, x := range []float64{math.Float64frombits(bits), -math.Float64frombits(bits)} {
			s, err := digits.Text(x)
			if err != nil || len(s) != len(layout(x)) {
				t.Fatalf("Text(%v): %s, %v, want %s", x, s, err, layout(x))
			}
			if back, err := strconv.ParseFloat(s, 64); err != nil || back != x {
				t.Fatalf("Text(%v): %s leads to %v", x, s, back)
			}
		}
	}
}

func TestRounded(t *testing.T) {
	for _, c := range []struct {
		x      float64
		places int
		row    string
		n      int
	}{{2.5, 1, "2", 1}, {3.5, 1, "4", 1}, {9.96, 2, "1", 2}, {0.1, 20, "10000000000000000555", 0}, {0, 5, "0", 1}, {9.5, 1, "1", 2}, {8.5, 1, "8", 1}, {99.5, 2, "1", 3}, {-1e300, 1, "1", 301}, {0.125, 2, "12", 0}, {0.375, 2, "38", 0}, {1 << 53, 800, "9007199254740992", 16}} {
		if row, n, err := digits.Rounded(math.Float64bits(c.x), c.places); row != c.row || n != c.n || err != nil {
			t.Errorf("Rounded(%v, %d): %s with %d, %v", c.x, c.places, row, n, err)
		}
	}
	r := rand.New(rand.NewSource(6))
	for _, bits := range sizes(r, 1500) {
		x := math.Float64frombits(bits)
		row, n, err := digits.Rounded(bits|1<<63, api.MaxPlaces)
		if err != nil || said(t, row, n).Cmp(sizeOf(bits)) != 0 {
			t.Fatalf("Rounded(%v, most): %s with %d, %v", x, row, n, err)
		}
		if row, n, err = digits.Rounded(bits, 17); err != nil || len(row) > 17 {
			t.Fatalf("Rounded(%v, 17): %s with %d, %v", x, row, n, err)
		}
		if back, _ := said(t, row, n).Float64(); back != x {
			t.Fatalf("Rounded(%v, 17) leads to %v", x, back)
		}
		for _, places := range []int{1, 2, 3, 16, 1 + r.Intn(799)} {
			row, n, err := digits.Rounded(bits, places)
			if err != nil || len(row) > places || bits == 0 {
				continue
			}
			s := strconv.FormatFloat(x, 'e', places-1, 64) // which rounds halves to even
			mant, exp, _ := strings.Cut(s, "e")
			e, _ := strconv.Atoi(exp)
			if want := strings.TrimRight(strings.Replace(mant, ".", "", 1), "0"); row != want || n != e+1 {
				t.Fatalf("Rounded(%v, %d): %s with %d, want %s with %d", x, places, row, n, want, e+1)
			}
		}
	}
}

func TestErrors(t *testing.T) {
	for _, bits := range []uint64{0x7FF << 52, 0xFFF << 52, 0x7FF8 << 48, 1<<64 - 1, 0x7FF<<52 + 1} {
		row, n, err := digits.Shortest(bits)
		s, err2 := digits.Text(math.Float64frombits(bits))
		e, err3 := digits.Exact(bits)
		a, err4 := digits.Around(bits)
		q, m, err5 := digits.Rounded(bits, 0)
		for _, err := range []error{err, err2, err3, err4, err5} {
			if err != api.ErrInfinite || !errors.Is(err, api.ErrInfinite) {
				t.Errorf("of %x: %v", bits, err)
			}
		}
		if row != "" || n != 0 || s != "" || e != "" || a != (api.Reach{}) || q != "" || m != 0 {
			t.Errorf("of %x: something beside an error", bits)
		}
	}
	for _, places := range []int{0, -1, 801, math.MinInt, math.MaxInt} {
		for _, bits := range []uint64{0, 0x3FF << 52} {
			if row, n, err := digits.Rounded(bits, places); row != "" || n != 0 || err != api.ErrArg {
				t.Errorf("Rounded(1, %d): %s, %d, %v", places, row, n, err)
			}
		}
	}
}

func TestUnlike(t *testing.T) {
	r := rand.New(rand.NewSource(7))
	for _, bits := range sizes(r, 3000) {
		if bits == 0x7FEFFFFFFFFFFFFF {
			continue
		}
		a, n, _ := digits.Shortest(bits)
		b, m, _ := digits.Shortest(bits + 1)
		if a == b && n == m {
			t.Fatalf("Shortest of %x and of the next one: %s with %d", bits, a, n)
		}
	}
}
