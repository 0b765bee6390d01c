package wide_test

import (
	"math"
	"math/big"
	"math/rand"
	"strings"
	"testing"

	"affidavit/api"
	"affidavit/wide"
)

const top = math.MaxUint64

// word is a word that is often nearly nought, nearly full, or has few bits.
func word(r *rand.Rand) uint64 {
	switch r.Intn(6) {
	case 0:
		return uint64(r.Intn(3))
	case 1:
		return top - uint64(r.Intn(3))
	case 2:
		return 1 << uint(r.Intn(64))
	case 3:
		return r.Uint64() >> uint(r.Intn(64))
	}
	return r.Uint64()
}

func bigPair(p wide.Pair) *big.Int {
	n := new(big.Int).SetUint64(p.Hi)
	n.Lsh(n, 64)
	return n.Or(n, new(big.Int).SetUint64(p.Lo))
}

func pairOf(n *big.Int) wide.Pair {
	m := new(big.Int).And(n, new(big.Int).Sub(new(big.Int).Lsh(big.NewInt(1), 128), big.NewInt(1)))
	lo := new(big.Int).And(m, new(big.Int).SetUint64(top)).Uint64()
	return wide.Pair{Hi: m.Rsh(m, 64).Uint64(), Lo: lo}
}

func bigNat(t *testing.T, n wide.Nat) *big.Int {
	t.Helper()
	b, ok := new(big.Int).SetString(n.Text(), 10)
	if !ok {
		t.Fatalf("Text: %q", n.Text())
	}
	return b
}

func natOf(t *testing.T, b *big.Int) wide.Nat {
	t.Helper()
	n, err := wide.Parse(b.String())
	if err != nil {
		t.Fatalf("Parse of %s: %v", b, err)
	}
	return n
}

// random is a number of at most so many bits, made of words as word tells them.
func random(r *rand.Rand, bits int) *big.Int {
	n := new(big.Int)
	for n.BitLen() < bits {
		n.Lsh(n, 64)
		n.Or(n, new(big.Int).SetUint64(word(r)))
		if r.Intn(8) == 0 {
			break
		}
	}
	return n.Rsh(n, uint(max(0, n.BitLen()-bits)))
}

func bound() *big.Int { return new(big.Int).Lsh(big.NewInt(1), api.MaxBits) }

// answers: n and err are what b says: b itself, or ErrOver and nothing.
func answers(t *testing.T, what string, n wide.Nat, err error, b *big.Int) {
	t.Helper()
	switch {
	case b.Cmp(bound()) >= 0:
		if err != api.ErrOver || n.Len() != 0 {
			t.Errorf("%s: %d bits, %v, want ErrOver", what, n.Len(), err)
		}
	case err != nil || bigNat(t, n).Cmp(b) != 0:
		t.Errorf("%s: %s, %v, want %s", what, n.Text(), err, b)
	}
}

func TestPairSums(t *testing.T) {
	r := rand.New(rand.NewSource(1))
	for range 20000 {
		p, q := wide.Pair{Hi: word(r), Lo: word(r)}, wide.Pair{Hi: word(r), Lo: word(r)}
		a, b := bigPair(p), bigPair(q)
		sum := new(big.Int).Add(a, b)
		if s, over := p.Add(q); s != pairOf(sum) || over != (sum.BitLen() > 128) {
			t.Fatalf("%v + %v: %v, %v", p, q, s, over)
		}
		rest := new(big.Int).Sub(a, b)
		under := rest.Sign() < 0
		if under {
			rest.Add(rest, new(big.Int).Lsh(big.NewInt(1), 128))
		}
		if s, below := p.Sub(q); s != pairOf(rest) || below != under {
			t.Fatalf("%v - %v: %v, %v", p, q, s, below)
		}
		if wide.Mul(p.Hi, p.Lo) != pairOf(new(big.Int).Mul(new(big.Int).SetUint64(p.Hi), new(big.Int).SetUint64(p.Lo))) {
			t.Fatalf("Mul %v: %v", p, wide.Mul(p.Hi, p.Lo))
		}
		if p.Cmp(q) != a.Cmp(b) || p.Cmp(p) != 0 || p.Len() != a.BitLen() {
			t.Fatalf("%v and %v: Cmp %d, Len %d", p, q, p.Cmp(q), p.Len())
		}
	}
}

func TestPairExamples(t *testing.T) {
	if p := wide.Mul(top, top); p != (wide.Pair{Hi: top - 1, Lo: 1}) {
		t.Errorf("Mul: %v", p)
	}
	if p, under := (wide.Pair{Lo: 1}).Sub(wide.Pair{Lo: 2}); p != (wide.Pair{Hi: top, Lo: top}) || !under {
		t.Errorf("Sub: %v, %v", p, under)
	}
	if p, over := (wide.Pair{Hi: top, Lo: top}).Add(wide.Pair{Lo: 1}); p != (wide.Pair{}) || !over {
		t.Errorf("Add: %v, %v", p, over)
	}
	if (wide.Pair{Hi: 1, Lo: 5}).Len() != 65 || (wide.Pair{}).Len() != 0 {
		t.Error("Len")
	}
}

func TestPairShifts(t *testing.T) {
	r := rand.New(rand.NewSource(2))
	counts := []int{math.MinInt, -129, -64, -1, 128, 129, 192, 256, 1 << 40, math.MaxInt}
	for n := range 128 {
		counts = append(counts, n)
	}
	for range 100 {
		p := wide.Pair{Hi: word(r), Lo: word(r)}
		for _, n := range counts {
			k := uint(min(max(n, 0), 300))
			if s := p.Shl(n); s != pairOf(new(big.Int).Lsh(bigPair(p), k)) {
				t.Fatalf("%v.Shl(%d): %v", p, n, s)
			}
			if s := p.Shr(n); s != pairOf(new(big.Int).Rsh(bigPair(p), k)) {
				t.Fatalf("%v.Shr(%d): %v", p, n, s)
			}
		}
	}
}

func TestPairDiv(t *testing.T) {
	r := rand.New(rand.NewSource(3))
	for range 20000 {
		p, d := wide.Pair{Hi: word(r), Lo: word(r)}, max(word(r), 1)
		q, left, err := p.Div(d)
		wq, wl := new(big.Int).QuoRem(bigPair(p), new(big.Int).SetUint64(d), new(big.Int))
		if err != nil || q != pairOf(wq) || left != wl.Uint64() {
			t.Fatalf("%v.Div(%d): %v, %d, %v", p, d, q, left, err)
		}
		// P1.10: the same of Nats.
		n, _ := wide.Of(p.Hi).Shl(64)
		n, _ = n.Add(wide.Of(p.Lo))
		nq, nl, err := n.Divide(wide.Of(d))
		if err != nil || bigNat(t, nq).Cmp(wq) != 0 || bigNat(t, nl).Cmp(wl) != 0 {
			t.Fatalf("%v by %d as Nats: %s, %s, %v", p, d, nq.Text(), nl.Text(), err)
		}
	}
	if q, left, err := (wide.Pair{Hi: 3, Lo: 7}).Div(0); q != (wide.Pair{}) || left != 0 || err != api.ErrZero {
		t.Errorf("Div(0): %v, %d, %v", q, left, err)
	}
}

func TestPower(t *testing.T) {
	cases := []struct {
		base uint64
		n    int
	}{{10, 3}, {0, 0}, {0, 1}, {0, 9000}, {1, 0}, {1, math.MaxInt}, {2, 8191}, {2, 8192}, {2, 8193}, {3, 5168}, {3, 5169}, {10, 2466}, {10, 2467}, {7, 1}, {top, 1}, {top, 127}, {top, 128}, {top, 129}, {1 << 32, 255}, {1 << 32, 256}, {5, 1074}}
	for _, c := range cases {
		n, err := wide.Power(c.base, c.n)
		e := c.n
		if c.base < 2 {
			e = min(e, 2)
		}
		answers(t, "Power", n, err, new(big.Int).Exp(new(big.Int).SetUint64(c.base), big.NewInt(int64(e)), nil))
	}
	for _, base := range []uint64{0, 1, 2} {
		if n, err := wide.Power(base, -1); err != api.ErrArg || n.Len() != 0 {
			t.Errorf("Power(%d, -1): %v", base, err)
		}
	}
	if _, err := wide.Power(0, math.MinInt); err != api.ErrArg {
		t.Errorf("Power(0, least): %v", err)
	}
	if _, err := wide.Power(2, math.MaxInt); err != api.ErrOver {
		t.Errorf("Power(2, greatest): %v", err)
	}
	for _, n := range []uint64{0, 1, 9, top} {
		if bigNat(t, wide.Of(n)).Cmp(new(big.Int).SetUint64(n)) != 0 {
			t.Errorf("Of(%d): %s", n, wide.Of(n).Text())
		}
	}
}

func TestParse(t *testing.T) {
	spots := map[string]int{"": 0, "1a2": 1, "a": 0, "12 ": 2, "-1": 0, "+1": 0, "1_0": 1, "0x1": 1, "１": 0, "5/": 1, "5:": 1, strings.Repeat("9", 5000) + "x9": 5000}
	for s, at := range spots {
		n, err := wide.Parse(s)
		if err != (api.Spot{Err: api.ErrDigit, At: at}) || n.Len() != 0 {
			t.Errorf("Parse(%.20q): %v", s, err)
		}
	}
	texts := []string{"0", "007", "000", "1", "10", "9999999999999999999", "10000000000000000000", "10000000000000000001", "18446744073709551615", "18446744073709551616", strings.Repeat("0", 5000) + "12", "1" + strings.Repeat("0", 400), strings.Repeat("9", 2466)}
	most := new(big.Int).Sub(bound(), big.NewInt(1)).String()
	texts = append(texts, most, "000"+most, bound().String(), "1"+strings.Repeat("0", 2466), strings.Repeat("9", 2467), strings.Repeat("9", 9999), "1"+strings.Repeat("0", 19)+strings.Repeat("0", 19)+"7")
	for _, s := range texts {
		want, _ := new(big.Int).SetString(s, 10)
		n, err := wide.Parse(s)
		answers(t, "Parse", n, err, want)
		if want.Cmp(bound()) < 0 && n.Text() != want.String() {
			t.Errorf("Text of %s: %s", want, n.Text())
		}
	}
	if (wide.Nat{}).Text() != "0" {
		t.Error("Text of the zero Nat")
	}
}

func TestNatSums(t *testing.T) {
	r := rand.New(rand.NewSource(4))
	for range 1500 {
		a, b := random(r, 1+r.Intn(api.MaxBits)), random(r, 1+r.Intn(api.MaxBits))
		n, m := natOf(t, a), natOf(t, b)
		sum, err := n.Add(m)
		answers(t, "Add", sum, err, new(big.Int).Add(a, b))
		turned, err2 := m.Add(n)
		if err != err2 || turned.Cmp(sum) != 0 {
			t.Errorf("Add hangs on the order")
		}
		product, err := n.Mul(m)
		answers(t, "Mul", product, err, new(big.Int).Mul(a, b))
		turned, err2 = m.Mul(n)
		if err != err2 || turned.Cmp(product) != 0 {
			t.Errorf("Mul hangs on the order")
		}
		d := word(r)
		times, err := n.Times(d)
		answers(t, "Times", times, err, new(big.Int).Mul(a, new(big.Int).SetUint64(d)))
		rest, err := n.Sub(m)
		if a.Cmp(b) < 0 {
			if err != api.ErrUnder || rest.Len() != 0 {
				t.Errorf("Sub: %v", err)
			}
		} else {
			answers(t, "Sub", rest, err, new(big.Int).Sub(a, b))
		}
		if n.Cmp(m) != a.Cmp(b) || n.Cmp(n) != 0 || n.Len() != a.BitLen() {
			t.Errorf("Cmp %d, Len %d", n.Cmp(m), n.Len())
		}
		if bigNat(t, n).Cmp(a) != 0 || bigNat(t, m).Cmp(b) != 0 {
			t.Errorf("a Nat changed")
		}
	}
}

func TestBounds(t *testing.T) {
	most := natOf(t, new(big.Int).Sub(bound(), big.NewInt(1)))
	half, _ := wide.Power(2, api.MaxBits-1)
	one := wide.Of(1)
	for what, f := range map[string]func() (wide.Nat, error){
		"most and 1": func() (wide.Nat, error) { return most.Add(one) },
		"half twice": func() (wide.Nat, error) { return half.Times(2) },
		"half half":  func() (wide.Nat, error) { return half.Add(half) },
		"most most":  func() (wide.Nat, error) { return most.Mul(most) },
		"half up":    func() (wide.Nat, error) { return half.Shl(1) },
		"one up":     func() (wide.Nat, error) { return one.Shl(api.MaxBits) },
		"five up":    func() (wide.Nat, error) { return wide.Of(5).Shl(8190) },
		"far up":     func() (wide.Nat, error) { return one.Shl(math.MaxInt) },
	} {
		if n, err := f(); err != api.ErrOver || n.Len() != 0 {
			t.Errorf("%s: %v", what, err)
		}
	}
	for what, f := range map[string]func() (wide.Nat, error){
		"most and 0": func() (wide.Nat, error) { return most.Add(wide.Nat{}) },
		"most once":  func() (wide.Nat, error) { return most.Times(1) },
		"one up":     func() (wide.Nat, error) { return one.Shl(api.MaxBits - 1) },
		"half":       func() (wide.Nat, error) { return half.Add(wide.Of(top)) },
	} {
		if n, err := f(); err != nil || n.Len() != api.MaxBits {
			t.Errorf("%s: %d bits, %v", what, n.Len(), err)
		}
	}
	if n, err := most.Times(0); err != nil || n.Len() != 0 {
		t.Errorf("most times 0: %v", err)
	}
	if n, err := wide.Of(5).Sub(wide.Of(5)); err != nil || n.Text() != "0" {
		t.Errorf("5 - 5: %s, %v", n.Text(), err)
	}
	if _, err := wide.Of(5).Sub(wide.Of(6)); err != api.ErrUnder {
		t.Errorf("5 - 6: %v", err)
	}
}

func TestDivide(t *testing.T) {
	r := rand.New(rand.NewSource(5))
	for range 6000 {
		a, b := random(r, 1+r.Intn(api.MaxBits)), random(r, 1+r.Intn(1+r.Intn(api.MaxBits)))
		if r.Intn(3) == 0 { // such that quotients are nearly round
			b = random(r, 400)
			a = new(big.Int).Mul(b, random(r, 3000))
			a.Add(a, big.NewInt(int64(r.Intn(3)-1)))
			a.Abs(a)
		}
		if b.Sign() == 0 {
			b.SetInt64(1)
		}
		n, m := natOf(t, a), natOf(t, b)
		q, left, err := n.Divide(m)
		wq, wl := new(big.Int).QuoRem(a, b, new(big.Int))
		if err != nil || bigNat(t, q).Cmp(wq) != 0 || bigNat(t, left).Cmp(wl) != 0 {
			t.Fatalf("%s by %s: %s, %s, %v", a, b, q.Text(), left.Text(), err)
		}
		back, err := q.Mul(m)
		if err != nil {
			t.Fatal(err)
		}
		if back, _ = back.Add(left); back.Cmp(n) != 0 || left.Cmp(m) >= 0 {
			t.Fatalf("%s by %s does not lead back", a, b)
		}
	}
	for _, n := range []wide.Nat{{}, wide.Of(17)} {
		if q, left, err := n.Divide(wide.Nat{}); err != api.ErrZero || q.Len() != 0 || left.Len() != 0 {
			t.Errorf("by 0: %v", err)
		}
	}
	if q, left, err := wide.Of(17).Divide(wide.Of(5)); q.Text() != "3" || left.Text() != "2" || err != nil {
		t.Errorf("17 by 5: %s, %s, %v", q.Text(), left.Text(), err)
	}
}

// TestDivideGuesses divides by numbers whose words lead the guess of a quotient's word astray.
func TestDivideGuesses(t *testing.T) {
	edges := []uint64{0, 1, 2, 1<<63 - 1, 1 << 63, 1<<63 + 1, top - 1, top}
	words := func(l ...uint64) *big.Int {
		n := new(big.Int)
		for _, w := range l {
			n.Or(n.Lsh(n, 64), new(big.Int).SetUint64(w))
		}
		return n
	}
	for _, a := range edges {
		for _, b := range edges {
			for _, c := range edges {
				d := words(a|1<<62, b, c)
				for _, x := range edges {
					n := words(a|1<<62, b, x, c, a)
					q, left, err := natOf(t, n).Divide(natOf(t, d))
					wq, wl := new(big.Int).QuoRem(n, d, new(big.Int))
					if err != nil || bigNat(t, q).Cmp(wq) != 0 || bigNat(t, left).Cmp(wl) != 0 {
						t.Fatalf("%x by %x: %s, %s", n, d, q.Text(), left.Text())
					}
				}
			}
		}
	}
}

func TestNatShifts(t *testing.T) {
	r := rand.New(rand.NewSource(6))
	for range 3000 {
		a := random(r, 1+r.Intn(api.MaxBits))
		n := natOf(t, a)
		k := r.Intn(api.MaxBits+200) - 50
		if r.Intn(4) == 0 {
			k = 64 * r.Intn(130)
		}
		by := uint(max(k, 0))
		up, err := n.Shl(k)
		answers(t, "Shl", up, err, new(big.Int).Lsh(a, by))
		down, lost := n.Shr(k)
		want := new(big.Int).Rsh(a, by)
		if bigNat(t, down).Cmp(want) != 0 || lost != (new(big.Int).Lsh(want, by).Cmp(a) != 0) {
			t.Fatalf("%s.Shr(%d): %s, %v", a, k, down.Text(), lost)
		}
		if err == nil {
			if back, lost := up.Shr(k); back.Cmp(n) != 0 || lost {
				t.Fatalf("%s up and down by %d: %s, %v", a, k, back.Text(), lost)
			}
		}
	}
	for _, k := range []int{-1, 0, 8192, 9999, math.MaxInt} {
		if n, err := wide.Of(0).Shl(k); err != nil || n.Len() != 0 {
			t.Errorf("0.Shl(%d): %v", k, err)
		}
		if n, lost := (wide.Nat{}).Shr(k); n.Len() != 0 || lost {
			t.Errorf("0.Shr(%d): %v", k, lost)
		}
	}
	for _, k := range []int{3, 64, 8192, math.MaxInt} {
		if n, lost := wide.Of(5).Shr(k); n.Len() != 0 || !lost {
			t.Errorf("5.Shr(%d): %s, %v", k, n.Text(), lost)
		}
	}
	for _, k := range []int{-1, math.MinInt} {
		up, err := wide.Of(5).Shl(k)
		down, lost := wide.Of(5).Shr(k)
		if up.Text() != "5" || err != nil || down.Text() != "5" || lost {
			t.Errorf("5 by %d: %s, %s", k, up.Text(), down.Text())
		}
	}
}

func TestBitsAndWords(t *testing.T) {
	r := rand.New(rand.NewSource(7))
	for range 300 {
		a := random(r, 1+r.Intn(api.MaxBits))
		n := natOf(t, a)
		for range 50 {
			k := r.Intn(a.BitLen() + 70)
			if n.Bit(k) != (a.Bit(k) == 1) {
				t.Fatalf("%s.Bit(%d): %v", a, k, n.Bit(k))
			}
		}
		w, ok := n.Word()
		if ok != a.IsUint64() || ok && w != a.Uint64() || !ok && w != 0 {
			t.Fatalf("%s.Word(): %d, %v", a, w, ok)
		}
	}
	most := natOf(t, new(big.Int).Sub(bound(), big.NewInt(1)))
	if most.Bit(-1) || most.Bit(math.MinInt) || most.Bit(api.MaxBits) || most.Bit(math.MaxInt) || !most.Bit(0) || !most.Bit(api.MaxBits-1) {
		t.Error("bits at the ends")
	}
	if w, ok := (wide.Nat{}).Word(); w != 0 || !ok {
		t.Errorf("Word of 0: %d, %v", w, ok)
	}
	if w, ok := wide.Of(top).Word(); w != top || !ok {
		t.Errorf("Word of the greatest: %d, %v", w, ok)
	}
	big, _ := wide.Of(top).Add(wide.Of(1))
	if w, ok := big.Word(); w != 0 || ok || big.Len() != 65 {
		t.Errorf("Word of 2^64: %d, %v", w, ok)
	}
}

// TestLaws: a sum times a third number is the sum of the products.
func TestLaws(t *testing.T) {
	r := rand.New(rand.NewSource(8))
	for range 500 {
		a, b, c := natOf(t, random(r, 4000)), natOf(t, random(r, 4000)), natOf(t, random(r, 4000))
		sum, _ := a.Add(b)
		left, err := sum.Mul(c)
		ac, err1 := a.Mul(c)
		bc, err2 := b.Mul(c)
		right, err3 := ac.Add(bc)
		if err != nil || err1 != nil || err2 != nil || err3 != nil || left.Cmp(right) != 0 {
			t.Fatalf("%v %v %v %v", err, err1, err2, err3)
		}
		text := a.Text()
		again, err := wide.Parse("00" + text)
		if err != nil || again.Cmp(a) != 0 || again.Text() != text {
			t.Fatalf("Parse of %s: %v", text, err)
		}
	}
}
