package dec_test

import (
	"math"
	"math/big"
	"math/rand"
	"regexp"
	"strconv"
	"strings"
	"testing"

	"affidavit/api"
	"affidavit/dec"
)

var literal = regexp.MustCompile(`^-?(0|[1-9][0-9]*)(\.[0-9]+)?([eE][+-]?[0-9]+)?$`)

// beginning tells whether some literal begins with s: one more digit, or a few more bytes, make one of it.
func beginning(s string) bool {
	for _, rest := range []string{"", "0", ".0", "e0"} {
		if literal.MatchString(s + rest) {
			return true
		}
	}
	return false
}

func formOf(s string) error {
	if literal.MatchString(s) {
		return nil
	}
	for i := range s {
		if !beginning(s[:i+1]) {
			return api.Spot{Err: api.ErrForm, At: i}
		}
	}
	return api.Spot{Err: api.ErrForm, At: len(s)}
}

func TestCheck(t *testing.T) {
	form := func(at int) error { return api.Spot{Err: api.ErrForm, At: at} }
	for s, want := range map[string]error{
		"0": nil, "-0.5e+3": nil, "01": form(1), ".5": form(0), "1.": form(2), "1e": form(2), "-": form(1), "": form(0), "+1": form(0), "1.5e3x": form(5),
		"-0": nil, "1E-07": nil, "--1": form(1), "1..2": form(2), "1e+": form(3), "1e+-2": form(3), "0x1": form(1), "1.5.": form(3), "-a": form(1), " 1": form(0), "1 ": form(1), "1e5.": form(3), "é": form(0), "1٣": form(1),
	} {
		if err := dec.Check(s); err != want {
			t.Errorf("Check(%q): %v, want %v", s, err, want)
		}
	}
	r := rand.New(rand.NewSource(1))
	for range 100000 {
		b := make([]byte, r.Intn(9))
		for i := range b {
			b[i] = "00123.eE+--."[r.Intn(12)]
		}
		if err := dec.Check(string(b)); err != formOf(string(b)) {
			t.Fatalf("Check(%q): %v, want %v", b, err, formOf(string(b)))
		}
	}
}

// random is a literal, of whatever size.
func random(r *rand.Rand) string {
	digits := func(n int) string {
		var s strings.Builder
		for range n {
			s.WriteByte("0000123456789999"[r.Intn(16)])
		}
		return s.String()
	}
	s := ""
	if r.Intn(3) == 0 {
		s = "-"
	}
	if r.Intn(3) == 0 {
		s += "0"
	} else {
		s += string("123456789"[r.Intn(9)]) + digits(r.Intn(1+r.Intn(40)))
	}
	if r.Intn(2) == 0 {
		s += "." + digits(1+r.Intn(1+r.Intn(60)))
	}
	switch r.Intn(4) {
	case 0:
		s += "e" + strconv.Itoa(r.Intn(30)-15)
	case 1:
		s += "E+" + strconv.Itoa(r.Intn(330))
	case 2:
		s += "e-0" + strconv.Itoa(r.Intn(360))
	}
	return s
}

func rat(t *testing.T, s string) *big.Rat {
	t.Helper()
	x, ok := new(big.Rat).SetString(s)
	if !ok {
		t.Fatalf("%q", s)
	}
	return x
}

// rounded is what the document asks for, and whether it is finite.
func rounded(x *big.Rat, way api.Way) (float64, bool) {
	near, exact := x.Float64() // to the even one
	if exact || way == api.WayEven {
		return near, !math.IsInf(near, 0)
	}
	low, high := near, near // the floats on both sides
	if math.IsInf(near, 0) {
		low, high = math.MaxFloat64, math.Inf(1)
		if near < 0 {
			low, high = math.Inf(-1), -math.MaxFloat64
		}
	} else if new(big.Rat).SetFloat64(near).Cmp(x) < 0 {
		high = math.Nextafter(near, math.Inf(1))
	} else {
		low = math.Nextafter(near, math.Inf(-1))
	}
	pick := low
	switch way {
	case api.WayUp:
		pick = high
	case api.WayZero:
		if x.Sign() < 0 {
			pick = high
		}
	case api.WayAway:
		pick = near
		middle := new(big.Rat).Add(sizeOf(low), sizeOf(high))
		if middle.Quo(middle, big.NewRat(2, 1)).Cmp(x) == 0 {
			if pick = high; x.Sign() < 0 {
				pick = low
			}
		}
	}
	return pick, !math.IsInf(pick, 0)
}

// sizeOf takes the infinities for 2^1024 and its opposite.
func sizeOf(x float64) *big.Rat {
	if !math.IsInf(x, 0) {
		return new(big.Rat).SetFloat64(x)
	}
	top := new(big.Rat).SetInt(new(big.Int).Lsh(big.NewInt(1), 1024))
	if x < 0 {
		top.Neg(top)
	}
	return top
}

var ways = []api.Way{api.WayEven, api.WayAway, api.WayZero, api.WayDown, api.WayUp}

func bitsOf(x float64) uint64 {
	if x == 0 {
		return 0
	}
	return math.Float64bits(x)
}

func checkRound(t *testing.T, s string) {
	t.Helper()
	x := rat(t, s)
	for _, way := range ways {
		bits, err := dec.Round(s, way)
		want, ok := rounded(x, way)
		if !ok && (err != api.ErrRange || bits != 0) || ok && (err != nil || bits != bitsOf(want)) {
			t.Fatalf("Round(%s, %d): %x, %v, want %x, %v", s, way, bits, err, bitsOf(want), ok)
		}
	}
}

func TestRound(t *testing.T) {
	r := rand.New(rand.NewSource(2))
	for range 20000 {
		s := random(r)
		checkRound(t, s)
		bits, err := dec.Bits(s)
		even, err2 := dec.Round(s, api.WayEven)
		x, err3 := dec.Float(s)
		if bits != even || err != err2 || err != err3 || math.Float64bits(x) != bits {
			t.Fatalf("Bits, Round, Float of %s: %x, %x, %v; %v, %v, %v", s, bits, even, x, err, err2, err3)
		}
	}
}

// TestRoundNearHalves rounds the floats themselves, what lies halfway between two of them, and what is a little beside.
func TestRoundNearHalves(t *testing.T) {
	r := rand.New(rand.NewSource(3))
	list := []uint64{0, 1, 2, 3, 1<<52 - 1, 1 << 52, 1<<52 + 1, 2 << 52, 0x3FF << 52, 0x7FE << 52, 0x7FEFFFFFFFFFFFFE, 0x7FEFFFFFFFFFFFFF, 0x4340000000000000, 0x4340000000000001}
	for range 300 {
		list = append(list, r.Uint64()>>1%(0x7FF<<52), r.Uint64()>>12)
	}
	for _, bits := range list {
		low := math.Float64frombits(bits)
		high := math.Float64frombits(bits + 1)
		middle := new(big.Rat).Add(sizeOf(low), sizeOf(high))
		middle.Quo(middle, big.NewRat(2, 1))
		for _, x := range []*big.Rat{sizeOf(low), middle} {
			s := x.FloatString(1100)
			for _, lit := range []string{s, s + "0", s + strings.Repeat("0", 900) + "1", "-" + s, "-" + s + strings.Repeat("0", 2000) + "7"} {
				checkRound(t, lit)
			}
			if x.Sign() > 0 { // a little below
				below := new(big.Rat).Sub(x, new(big.Rat).SetFrac(big.NewInt(1), new(big.Int).Exp(big.NewInt(10), big.NewInt(1500), nil)))
				checkRound(t, below.FloatString(1500))
			}
		}
	}
}

func TestBitsExamples(t *testing.T) {
	for s, want := range map[string]uint64{
		"1": 0x3FF0000000000000, "-2.5": 0xC004000000000000, "-0": 0, "0": 0, "0e99999999999999999999": 0, "-0.0E-5": 0, "5e-324": 1, "2e-324": 0, "-1e-400": 0, "-2e-324": 0,
		"9007199254740993": 0x4340000000000000, "9007199254740993.000000000000000000001": 0x4340000000000001, "1.7976931348623158e308": 0x7FEFFFFFFFFFFFFF, "0.1": 0x3FB999999999999A,
		"1e-99999999999999999999": 0, "1000000000000000000000000e-24": 0x3FF0000000000000, "0." + strings.Repeat("0", 5000) + "1e5001": 0x3FF0000000000000, "1" + strings.Repeat("0", 5000) + "e-5000": 0x3FF0000000000000,
		"1e" + strings.Repeat("0", 9000) + "1": 0x4024000000000000,
	} {
		if bits, err := dec.Bits(s); bits != want || err != nil {
			t.Errorf("Bits(%.40s): %x, %v, want %x", s, bits, err, want)
		}
	}
	for _, s := range []string{"1.7976931348623159e308", "1e400", "-1e400", "1e309", "1e99999999999999999999", "1" + strings.Repeat("0", 309), beyond(), "-" + beyond()} {
		bits, err := dec.Bits(s)
		x, err2 := dec.Float(s)
		if bits != 0 || err != api.ErrRange || x != 0 || err2 != api.ErrRange {
			t.Errorf("Bits(%.40s): %x, %v; Float: %v, %v", s, bits, err, x, err2)
		}
	}
	bits, err := dec.Bits("01")
	x, err2 := dec.Float("1x")
	if bits != 0 || err != (api.Spot{Err: api.ErrForm, At: 1}) || x != 0 || err2 != (api.Spot{Err: api.ErrForm, At: 1}) {
		t.Errorf("of no literal: %v, %v", err, err2)
	}
}

// beyond is halfway between the greatest float and 2^1024.
func beyond() string {
	n := new(big.Int).Lsh(big.NewInt(1), 1024)
	return n.Sub(n, new(big.Int).Lsh(big.NewInt(1), 970)).String()
}

func TestRoundExamples(t *testing.T) {
	for _, c := range []struct {
		s    string
		way  api.Way
		bits uint64
		err  error
	}{
		{"0.1", api.WayDown, 0x3FB9999999999999, nil}, {"0.1", api.WayZero, 0x3FB9999999999999, nil},
		{"1e400", api.WayDown, 0x7FEFFFFFFFFFFFFF, nil}, {"-1e400", api.WayDown, 0, api.ErrRange}, {"1e400", api.WayZero, 0x7FEFFFFFFFFFFFFF, nil}, {"-1e400", api.WayZero, 0xFFEFFFFFFFFFFFFF, nil},
		{"-1e400", api.WayUp, 0xFFEFFFFFFFFFFFFF, nil}, {"1e400", api.WayUp, 0, api.ErrRange}, {"1e400", api.WayAway, 0, api.ErrRange}, {"1e400", api.WayEven, 0, api.ErrRange},
		{"-1e-400", api.WayDown, 1<<63 | 1, nil}, {"1e-400", api.WayUp, 1, nil}, {"-1e-400", api.WayUp, 0, nil}, {"1e-400", api.WayDown, 0, nil}, {"-1e-400", api.WayZero, 0, nil}, {"-1e-400", api.WayAway, 0, nil},
		{"9007199254740993", api.WayAway, 0x4340000000000001, nil}, {"-9007199254740993", api.WayAway, 0xC340000000000001, nil},
		{"1", 0, 0, api.ErrArg}, {"1", 6, 0, api.ErrArg}, {"1", -1, 0, api.ErrArg}, {"x", 0, 0, api.ErrArg}, {"x", api.WayUp, 0, api.Spot{Err: api.ErrForm, At: 0}},
		{"-0", api.WayDown, 0, nil}, {"1.7976931348623157e308", api.WayUp, 0x7FEFFFFFFFFFFFFF, nil}, {"1.7976931348623157e308", api.WayDown, 0x7FEFFFFFFFFFFFFE, nil},
	} {
		if bits, err := dec.Round(c.s, c.way); bits != c.bits || err != c.err {
			t.Errorf("Round(%s, %d): %x, %v, want %x, %v", c.s, c.way, bits, err, c.bits, c.err)
		}
	}
}

func TestPartsAndPrint(t *testing.T) {
	for _, c := range []struct {
		s   string
		d   api.Decimal
		err error
	}{
		{"-120.50e2", api.Decimal{Neg: true, Digits: "1205", Exp: 1}, nil}, {"0.000", api.Decimal{}, nil}, {"-0e7", api.Decimal{}, nil}, {"0e-99999999999999999999", api.Decimal{}, nil},
		{"1e9999999999999", api.Decimal{}, api.ErrLong}, {"1e1099511627776", api.Decimal{Digits: "1", Exp: 1 << 40}, nil}, {"1e1099511627777", api.Decimal{}, api.ErrLong}, {"10e1099511627776", api.Decimal{}, api.ErrLong},
		{"0.1e1099511627777", api.Decimal{Digits: "1", Exp: 1 << 40}, nil}, {"1e-1099511627776", api.Decimal{Digits: "1", Exp: -1 << 40}, nil}, {"1e-1099511627777", api.Decimal{}, api.ErrLong}, {"1.0e-1099511627776", api.Decimal{Digits: "1", Exp: -1 << 40}, nil},
		{"1.2e-1099511627776", api.Decimal{}, api.ErrLong}, {"100e-1099511627778", api.Decimal{Digits: "1", Exp: -1 << 40}, nil}, {"1e18446744073709551617", api.Decimal{}, api.ErrLong}, {"1e-9223372036854775809", api.Decimal{}, api.ErrLong},
		{"0.00120", api.Decimal{Digits: "12", Exp: -4}, nil}, {"7", api.Decimal{Digits: "7"}, nil}, {"1.", api.Decimal{}, api.Spot{Err: api.ErrForm, At: 2}},
	} {
		if d, err := dec.Parts(c.s); d != c.d || err != c.err {
			t.Errorf("Parts(%s): %v, %v, want %v, %v", c.s, d, err, c.d, c.err)
		}
	}
	for _, c := range []struct {
		d   api.Decimal
		s   string
		err error
	}{
		{api.Decimal{Digits: "0012", Exp: -3}, "12e-3", nil}, {api.Decimal{Neg: true}, "-0", nil}, {api.Decimal{Digits: "1x"}, "", api.ErrArg}, {api.Decimal{Digits: "-1"}, "", api.ErrArg},
		{api.Decimal{Digits: "000", Exp: 5}, "0e5", nil}, {api.Decimal{Exp: -1}, "0e-1", nil}, {api.Decimal{Digits: "1", Exp: 1 << 40}, "1e1099511627776", nil}, {api.Decimal{Digits: "1", Exp: 1<<40 + 1}, "", api.ErrArg},
		{api.Decimal{Digits: "1", Exp: -1<<40 - 1}, "", api.ErrArg}, {api.Decimal{Neg: true, Digits: "1", Exp: -1 << 40}, "-1e-1099511627776", nil}, {api.Decimal{Neg: true, Digits: "100"}, "-100", nil}, {api.Decimal{Digits: "1", Exp: math.MinInt}, "", api.ErrArg},
	} {
		if s, err := dec.Print(c.d); s != c.s || err != c.err {
			t.Errorf("Print(%v): %s, %v, want %s, %v", c.d, s, err, c.s, c.err)
		}
	}
}

func TestThereAndBack(t *testing.T) {
	r := rand.New(rand.NewSource(4))
	for range 5000 {
		s := random(r)
		d, err := dec.Parts(s)
		if err != nil {
			t.Fatal(err)
		}
		if d.Digits == "" && (d.Exp != 0 || d.Neg) || d.Digits != strings.Trim(d.Digits, "0") {
			t.Fatalf("Parts(%s) is not bare: %v", s, d)
		}
		p, err := dec.Print(d)
		if err != nil || dec.Check(p) != nil || rat(t, p).Cmp(rat(t, s)) != 0 {
			t.Fatalf("Print of Parts(%s): %s, %v", s, p, err)
		}
		if back, err := dec.Parts(p); back != d || err != nil {
			t.Fatalf("Parts of Print of %v: %v, %v", d, back, err)
		}
	}
}

func TestValue(t *testing.T) {
	if bits, err := dec.Value(api.Decimal{Digits: "15", Exp: -1}, api.WayEven); bits != 0x3FF8000000000000 || err != nil {
		t.Errorf("Value of 1.5: %x, %v", bits, err)
	}
	if bits, err := dec.Value(api.Decimal{Exp: 7}, api.WayUp); bits != 0 || err != nil {
		t.Errorf("Value of nought: %x, %v", bits, err)
	}
	for _, c := range []struct {
		d   api.Decimal
		way api.Way
	}{{api.Decimal{Digits: "1x"}, api.WayEven}, {api.Decimal{Digits: "1", Exp: 1<<40 + 1}, api.WayEven}, {api.Decimal{Exp: -1<<40 - 1}, api.WayEven}, {api.Decimal{Digits: "1"}, 0}, {api.Decimal{Digits: "1"}, 6}} {
		if bits, err := dec.Value(c.d, c.way); bits != 0 || err != api.ErrArg {
			t.Errorf("Value(%v, %d): %x, %v", c.d, c.way, bits, err)
		}
	}
	if bits, err := dec.Value(api.Decimal{Digits: "1", Exp: 1 << 40}, api.WayEven); bits != 0 || err != api.ErrRange {
		t.Errorf("Value beyond: %x, %v", bits, err)
	}
	r := rand.New(rand.NewSource(5))
	for range 5000 {
		s := random(r)
		d, _ := dec.Parts(s)
		noughts := r.Intn(4)
		d.Digits = strings.Repeat("0", r.Intn(3)) + d.Digits + strings.Repeat("0", noughts)
		d.Exp -= noughts
		for _, way := range ways {
			bits, err := dec.Value(d, way)
			want, err2 := dec.Round(s, way)
			if bits != want || err != err2 {
				t.Fatalf("Value(%v, %d): %x, %v, want %x, %v", d, way, bits, err, want, err2)
			}
		}
	}
}

func TestCompare(t *testing.T) {
	form := api.Spot{Err: api.ErrForm}
	for _, c := range []struct {
		a, b string
		want int
		err  error
	}{
		{"1e2", "100.0", 0, nil}, {"-0", "0", 0, nil}, {"1e-9", "0", 1, nil}, {"-1e-9", "0", -1, nil}, {"0", "-5", 1, nil}, {"x", "y", 0, form}, {"1", "y", 0, form}, {"1e9999999999999", "", 0, form},
		{"1e9999999999999", "1", 0, api.ErrLong}, {"1", "-1e-9999999999999", 0, api.ErrLong}, {"1e9999999999999", "0", 0, api.ErrLong}, {"12", "123", -1, nil}, {"-12", "-123", 1, nil}, {"-1", "1", -1, nil}, {"0.12", "0.123", -1, nil},
		{"1e1099511627776", "-1e1099511627776", 1, nil}, {"1e1099511627776", "9e1099511627775", 1, nil},
	} {
		if n, err := dec.Compare(c.a, c.b); n != c.want || err != c.err {
			t.Errorf("Compare(%s, %s): %d, %v", c.a, c.b, n, err)
		}
	}
	r := rand.New(rand.NewSource(6))
	for range 10000 {
		a, b := random(r), random(r)
		if r.Intn(3) == 0 {
			b = a
			if strings.Contains(a, ".") && !strings.ContainsAny(a, "eE") {
				b = a + "0"
			}
		}
		if n, err := dec.Compare(a, b); err != nil || n != rat(t, a).Cmp(rat(t, b)) {
			t.Fatalf("Compare(%s, %s): %d, %v", a, b, n, err)
		}
	}
}

func TestAgainst(t *testing.T) {
	for _, c := range []struct {
		s    string
		bits uint64
		want int
		err  error
	}{
		{"0.1", 0x3FB999999999999A, -1, nil}, {"0", 1 << 63, 0, nil}, {"-0", 0, 0, nil}, {"1", 0x7FF << 52, 0, api.ErrArg}, {"1", 0xFFF << 52, 0, api.ErrArg}, {"x", 0x7FF8 << 48, 0, api.ErrArg}, {"x", 0, 0, api.Spot{Err: api.ErrForm}},
		{"1e99999999999999", 1, 1, nil}, {"-1e99999999999999", 1, -1, nil}, {"-1e99999999999999", 1<<63 | 1, -1, nil}, {"1e-99999999999999", 1, -1, nil}, {"1e-99999999999999", 0, 1, nil}, {"-1e-99999999999999", 1<<63 | 1, 1, nil},
		{"1e99999999999999", 0x7FEFFFFFFFFFFFFF, 1, nil}, {"-1", 0x3FF << 52, -1, nil}, {"1", 0xBFF << 52, 1, nil}, {"1", 0x3FF << 52, 0, nil}, {"-1", 0xBFF << 52, 0, nil}, {"5e-324", 1, 1, nil}, {"4e-324", 1, -1, nil},
		{"0e99999999999999", 1, -1, nil},
	} {
		if n, err := dec.Against(c.s, c.bits); n != c.want || err != c.err {
			t.Errorf("Against(%s, %x): %d, %v", c.s, c.bits, n, err)
		}
	}
	r := rand.New(rand.NewSource(7))
	for range 10000 {
		s := random(r)
		x := math.Float64frombits(r.Uint64())
		if near, err := dec.Float(s); err == nil && r.Intn(3) > 0 {
			x = near
		}
		if math.IsNaN(x) || math.IsInf(x, 0) {
			continue
		}
		if n, err := dec.Against(s, math.Float64bits(x)); err != nil || n != rat(t, s).Cmp(sizeOf(x)) {
			t.Fatalf("Against(%s, %v): %d, %v", s, x, n, err)
		}
		exact := sizeOf(x).FloatString(1080)
		if n, err := dec.Against(exact, math.Float64bits(x)); n != 0 || err != nil {
			t.Fatalf("Against itself, %v: %d, %v", x, n, err)
		}
		if n, err := dec.Against(exact+strings.Repeat("0", 1000)+"1", math.Float64bits(x)); err != nil || n != 1-2*int(math.Float64bits(x)>>63) && x != 0 {
			t.Fatalf("Against a little more than itself, %v: %d, %v", x, n, err)
		}
	}
}

// TestLaws: P4.8.
func TestLaws(t *testing.T) {
	r := rand.New(rand.NewSource(8))
	for range 5000 {
		s := random(r)
		turned := "-" + s
		if s[0] == '-' {
			turned = s[1:]
		}
		opposite := map[api.Way]api.Way{api.WayEven: api.WayEven, api.WayAway: api.WayAway, api.WayZero: api.WayZero, api.WayDown: api.WayUp, api.WayUp: api.WayDown}
		for _, way := range ways {
			a, err := dec.Round(s, way)
			b, err2 := dec.Round(turned, opposite[way])
			if err != err2 || a != b^1<<63 && a|b != 0 {
				t.Fatalf("%s turned about, way %d: %x, %x", s, way, a, b)
			}
		}
		down, err := dec.Round(s, api.WayDown)
		up, err2 := dec.Round(s, api.WayUp)
		if err != nil || err2 != nil {
			continue
		}
		n, _ := dec.Against(s, down)
		m, _ := dec.Against(s, up)
		if n < 0 || m > 0 || (n == 0) != (down == up) || (m == 0) != (down == up) {
			t.Fatalf("%s is not between: %x, %x", s, down, up)
		}
		next := math.Nextafter(math.Float64frombits(down), math.Inf(1))
		even, err := dec.Bits(s)
		if down != up && (bitsOf(next) != up || err == nil && even != down && even != up) {
			t.Fatalf("%s: %x and %x are no neighbours", s, down, up)
		}
	}
}
