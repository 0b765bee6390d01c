package bind_test

import (
	"math"
	"math/big"
	"math/rand"
	"reflect"
	"slices"
	"strconv"
	"strings"
	"testing"
	"unicode/utf16"

	"affidavit/api"
	"affidavit/bind"
	"affidavit/node"
	"affidavit/parse"
)

const example = `{"n": 300, "f": 0.1, "z": [1, -2], "b": [0, 255], "s": "é𝄞", "x": null, "m": -1, "t": true, "e": [], "o": {"a/b": 1}, "w": [1, "x"], "h": [1e300, 1e39], "r": [1, 2, 3], "y": [256, 0.5], "c": [[0, 1], [0, 1]]}`

func read(t *testing.T, s string) *node.Tree {
	t.Helper()
	tree, err := parse.Read([]byte(s), api.MaxDepth)
	if err != nil {
		t.Fatalf("%s: %v", s, err)
	}
	return tree
}

func trail(e api.Errno, p string) error { return api.Trail{Err: e, Pointer: p} }

// is tells whether a bound value has the type and the content of another one.
func is(a, b any) bool {
	if reflect.TypeOf(a) != reflect.TypeOf(b) {
		return false
	}
	v, w := reflect.ValueOf(a), reflect.ValueOf(b)
	if a != nil && v.Kind() == reflect.Slice && v.Len() == 0 {
		return w.Len() == 0
	}
	return reflect.DeepEqual(a, b)
}

func TestWholeCountSingle(t *testing.T) {
	for _, c := range []struct {
		x          float64
		n          int64
		u          uint64
		err, count error
	}{
		{math.Copysign(0, -1), 0, 0, nil, nil}, {1, 1, 1, nil, nil}, {-1, -1, 0, nil, api.ErrFit}, {0.5, 0, 0, api.ErrWhole, api.ErrWhole}, {-0.5, 0, 0, api.ErrWhole, api.ErrWhole}, {math.NaN(), 0, 0, api.ErrFit, api.ErrFit}, {math.Inf(1), 0, 0, api.ErrFit, api.ErrFit}, {math.Inf(-1), 0, 0, api.ErrFit, api.ErrFit},
		{1 << 63, 0, 1 << 63, api.ErrFit, nil}, {-1 << 63, -1 << 63, 0, nil, api.ErrFit}, {math.Nextafter(-1<<63, -1e30), 0, 0, api.ErrFit, api.ErrFit}, {math.Nextafter(1<<63, 0), 1<<63 - 1024, 1<<63 - 1024, nil, nil}, {1 << 64, 0, 0, api.ErrFit, api.ErrFit}, {math.Nextafter(1<<64, 0), 0, 1<<64 - 2048, api.ErrFit, nil}, {1e300, 0, 0, api.ErrFit, api.ErrFit}, {1 << 53, 1 << 53, 1 << 53, nil, nil}, {5e-324, 0, 0, api.ErrWhole, api.ErrWhole},
	} {
		if n, err := bind.Whole(c.x); n != c.n || err != c.err {
			t.Errorf("Whole(%v): %d, %v", c.x, n, err)
		}
		if u, err := bind.Count(c.x); u != c.u || err != c.count {
			t.Errorf("Count(%v): %d, %v", c.x, u, err)
		}
	}
	largest := float64(math.MaxFloat32) + math.Ldexp(1, 103) // halfway to what would follow
	for _, c := range []struct {
		x   float64
		y   float32
		err error
	}{
		{1e39, 0, api.ErrFit}, {-1e39, 0, api.ErrFit}, {-1e-60, 0, nil}, {1e-60, 0, nil}, {0.1, 0.1, nil}, {math.NaN(), 0, api.ErrFit}, {math.Inf(1), 0, api.ErrFit}, {math.Inf(-1), 0, api.ErrFit}, {math.Copysign(0, -1), 0, nil}, {math.MaxFloat32, math.MaxFloat32, nil}, {largest, 0, api.ErrFit}, {math.Nextafter(largest, 0), math.MaxFloat32, nil}, {-largest, 0, api.ErrFit},
		{1 + math.Ldexp(1, -24), 1, nil}, {1 + 3*math.Ldexp(1, -24), 1 + 4*float32(math.Ldexp(1, -24)), nil}, {math.SmallestNonzeroFloat32 / 2, 0, nil}, {math.SmallestNonzeroFloat32 * 0.51, math.SmallestNonzeroFloat32, nil},
	} {
		if y, err := bind.Single(c.x); math.Float32bits(y) != math.Float32bits(c.y) || err != c.err {
			t.Errorf("Single(%v): %v, %v", c.x, y, err)
		}
	}
}

func TestBindExamples(t *testing.T) {
	tree := read(t, example)
	for _, c := range []struct {
		p    string
		k    api.Kind
		want api.Bound
		err  error
	}{
		{"/n", api.KindI16, api.I16(300), nil}, {"/n", api.KindU8, nil, trail(api.ErrFit, "/n")}, {"/n", api.KindF32, api.F32(300), nil}, {"/n", api.KindChars, nil, trail(api.ErrSort, "/n")}, {"/f", api.KindI8, nil, trail(api.ErrWhole, "/f")}, {"/f", api.KindF32, api.F32(0.1), nil}, {"/f", api.KindF64, api.F64(0.1), nil}, {"/m", api.KindU64, nil, trail(api.ErrFit, "/m")}, {"/m", api.KindI8, api.I8(-1), nil},
		{"/z", api.KindC64, api.C64(complex(1, -2)), nil}, {"/z", api.KindC128, api.C128(complex(1, -2)), nil}, {"/b", api.KindBytes, api.Bytes{0, 255}, nil}, {"/z", api.KindBytes, nil, trail(api.ErrFit, "/z/1")}, {"/y", api.KindBytes, nil, trail(api.ErrFit, "/y/0")}, {"/w", api.KindBytes, nil, trail(api.ErrSort, "/w/1")}, {"/w", api.KindC128, nil, trail(api.ErrSort, "/w/1")}, {"/w", api.KindFloats, nil, trail(api.ErrSort, "/w/1")}, {"/r", api.KindC64, nil, trail(api.ErrPair, "/r")}, {"/e", api.KindC128, nil, trail(api.ErrPair, "/e")}, {"/n", api.KindC128, nil, trail(api.ErrSort, "/n")}, {"/h", api.KindC64, nil, trail(api.ErrFit, "/h/0")}, {"/h", api.KindC128, api.C128(complex(1e300, 1e39)), nil}, {"/o", api.KindBytes, nil, trail(api.ErrSort, "/o")}, {"/o", api.KindC64, nil, trail(api.ErrSort, "/o")}, {"/x", api.KindFloats, nil, trail(api.ErrSort, "/x")},
		{"/s", api.KindRunes, api.Runes{0xE9, 0x1D11E}, nil}, {"/s", api.KindUnits, api.Units{0xE9, 0xD834, 0xDD1E}, nil}, {"/s", api.KindChars, api.Chars("é𝄞"), nil}, {"/s", api.KindI8, nil, trail(api.ErrSort, "/s")}, {"/x", api.KindEmpty, api.Empty{}, nil}, {"/x", api.KindTruth, nil, trail(api.ErrSort, "/x")}, {"/t", api.KindTruth, api.Truth(true), nil}, {"/t", api.KindEmpty, nil, trail(api.ErrSort, "/t")}, {"/e", api.KindBytes, api.Bytes{}, nil}, {"/e", api.KindFloats, api.Floats{}, nil}, {"/r", api.KindFloats, api.Floats{1, 2, 3}, nil}, {"/e", api.KindF64, nil, trail(api.ErrSort, "/e")}, {"", api.KindI8, nil, trail(api.ErrSort, "")}, {"/n", api.KindUnits, nil, trail(api.ErrSort, "/n")}, {"/o/a~1b", api.KindU8, api.U8(1), nil}, {"/o/a~1b", api.KindRunes, nil, trail(api.ErrSort, "/o/a~1b")},
		{"/q", api.KindEmpty, nil, trail(api.ErrNone, "")}, {"/o/z/9", api.KindEmpty, nil, trail(api.ErrNone, "/o")}, {"q", api.KindEmpty, nil, api.Spot{Err: api.ErrPointer}}, {"/\xFF", api.KindEmpty, nil, api.Spot{Err: api.ErrText, At: 1}}, {"/x", 0, nil, api.ErrArg}, {"q", 20, nil, api.ErrArg}, {"/x", -1, nil, api.ErrArg},
	} {
		if b, err := bind.Bind(tree, c.p, c.k); !is(b, c.want) || err != c.err {
			t.Errorf("Bind(%s, %d): %#v, %v", c.p, c.k, b, err)
		}
	}
	if b, err := bind.Bind(nil, "x", 99); b != nil || err != api.ErrNil {
		t.Errorf("Bind of nil: %v", err)
	}
}

// integers are the integer kinds, with their least and greatest numbers.
func integers() map[api.Kind][2]*big.Int {
	m := map[api.Kind][2]*big.Int{}
	for i := range 4 {
		bits := uint(8 << i)
		half := new(big.Int).Lsh(big.NewInt(1), bits-1)
		m[api.KindI8+api.Kind(i)] = [2]*big.Int{new(big.Int).Neg(half), new(big.Int).Sub(half, big.NewInt(1))}
		m[api.KindU8+api.Kind(i)] = [2]*big.Int{new(big.Int), new(big.Int).Sub(new(big.Int).Lsh(half, 1), big.NewInt(1))}
	}
	return m
}

func TestIntegers(t *testing.T) {
	var numbers []float64
	for _, bits := range []int{0, 7, 8, 15, 16, 31, 32, 53, 62, 63, 64, 65, 100} {
		x := math.Ldexp(1, bits)
		numbers = append(numbers, x, x-1, x+1, -x, -x-1, 1-x, x-0.5, 0.5-x, math.Nextafter(x, 0), -math.Nextafter(x, 0), math.Nextafter(x, 1e300))
	}
	for _, x := range numbers {
		tree := read(t, "["+strconv.FormatFloat(x, 'g', -1, 64)+"]")
		exact, _ := new(big.Float).SetFloat64(x).Int(nil)
		var taken []api.Kind
		for k := api.KindI8; k <= api.KindU64; k++ {
			ends := integers()[k]
			b, err := bind.Bind(tree, "/0", k)
			switch {
			case x != math.Trunc(x):
				if b != nil || err != trail(api.ErrWhole, "/0") {
					t.Fatalf("%v as %d: %v, %v", x, k, b, err)
				}
			case exact.Cmp(ends[0]) < 0 || exact.Cmp(ends[1]) > 0:
				if b != nil || err != trail(api.ErrFit, "/0") {
					t.Fatalf("%v as %d: %v, %v", x, k, b, err)
				}
			default:
				taken = append(taken, k)
				checkWhole(t, x, exact, b, k)
			}
		}
		checkNarrow(t, tree, x, taken)
	}
}

func checkWhole(t *testing.T, x float64, exact *big.Int, b api.Bound, k api.Kind) {
	t.Helper()
	w, ok := b.(api.Whole)
	r, ok2 := b.(api.Real)
	if !ok || !ok2 || b.Kind() != k || r.Float() != x {
		t.Fatalf("%v as %d: %#v", x, k, b)
	}
	if n, ok := w.Int(); ok != exact.IsInt64() || ok && n != exact.Int64() {
		t.Fatalf("%v as %d: Int %d, %v", x, k, n, ok)
	}
}

func checkNarrow(t *testing.T, tree *node.Tree, x float64, taken []api.Kind) {
	t.Helper()
	w, err := bind.Narrow(tree, "/0")
	if x >= 0 {
		taken = slices.DeleteFunc(taken, func(k api.Kind) bool { return k < api.KindU8 })
	}
	if len(taken) == 0 {
		want := trail(api.ErrFit, "/0")
		if x != math.Trunc(x) {
			want = trail(api.ErrWhole, "/0")
		}
		if w != nil || err != want {
			t.Fatalf("Narrow of %v: %v, %v", x, w, err)
		}
		return
	}
	if err != nil || w.Kind() != taken[0] || w.(api.Real).Float() != x {
		t.Fatalf("Narrow of %v: %#v, %v, want %d", x, w, err, taken[0])
	}
}

// TestKinds: each kind's answer has its type and tells the kind; reals and wholes are just those.
func TestKinds(t *testing.T) {
	tree := read(t, `[null, true, 7, "aé😀", [1, 2]]`)
	for k := api.KindEmpty; k <= api.KindFloats; k++ {
		went := 0
		for i := range 5 {
			b, err := bind.Bind(tree, "/"+strconv.Itoa(i), k)
			if err != nil {
				if err != trail(api.ErrSort, "/"+strconv.Itoa(i)) || b != nil {
					t.Errorf("the kind %d at %d: %v", k, i, err)
				}
				continue
			}
			went++
			_, whole := b.(api.Whole)
			_, real := b.(api.Real)
			integer := k >= api.KindI8 && k <= api.KindU64
			if b.Kind() != k || whole != integer || real != (integer || k == api.KindF32 || k == api.KindF64) {
				t.Errorf("the kind %d: %#v", k, b)
			}
		}
		if went != 1 {
			t.Errorf("the kind %d goes %d times", k, went)
		}
	}
	r := rand.New(rand.NewSource(1))
	for range 500 {
		s := ""
		for range r.Intn(6) {
			s += string([]rune{'a', 'é', '€', '😀', 0xFFFF, 0x10000, 0x10FFFF}[r.Intn(7)])
		}
		m := node.New()
		m.Text(s)
		text, _ := m.Tree()
		runes, _ := bind.Bind(text, "", api.KindRunes)
		units, _ := bind.Bind(text, "", api.KindUnits)
		if !is(runes, api.Runes([]rune(s))) || !is(units, api.Units(utf16.Encode([]rune(s)))) {
			t.Fatalf("%q: %v, %v", s, runes, units)
		}
	}
}

func TestRow(t *testing.T) {
	tree := read(t, example)
	none := api.Trail{Err: api.ErrNone, Pointer: "/z"}
	for i, c := range []struct {
		p     string
		kinds []api.Kind
		want  []api.Bound
		err   error
	}{
		{"/z", []api.Kind{api.KindU8, api.KindI8}, []api.Bound{api.U8(1), api.I8(-2)}, nil}, {"/z", []api.Kind{api.KindU8, api.KindU8}, nil, api.All{trail(api.ErrFit, "/z/1")}}, {"/z", []api.Kind{api.KindI8}, nil, none}, {"/z", nil, nil, none}, {"/z", []api.Kind{api.KindI8, api.KindI8, api.KindI8}, nil, none}, {"/e", nil, nil, nil},
		{"/y", []api.Kind{api.KindChars, api.KindI8}, nil, api.All{trail(api.ErrSort, "/y/0"), trail(api.ErrWhole, "/y/1")}}, {"/c", []api.Kind{api.KindC64, api.KindBytes}, []api.Bound{api.C64(complex(0, 1)), api.Bytes{0, 1}}, nil}, {"/w", []api.Kind{api.KindF64, api.KindRunes}, []api.Bound{api.F64(1), api.Runes{'x'}}, nil},
		{"/n", []api.Kind{api.KindI8}, nil, trail(api.ErrSort, "/n")}, {"/o", nil, nil, trail(api.ErrSort, "/o")}, {"/q", nil, nil, trail(api.ErrNone, "")}, {"q", nil, nil, api.Spot{Err: api.ErrPointer}}, {"q", []api.Kind{api.KindI8, 0}, nil, api.ErrArg}, {"q", []api.Kind{20}, nil, api.ErrArg},
		{"q", make([]api.Kind, api.MaxSteps+1), nil, api.ErrArg}, {"q", slices.Repeat([]api.Kind{1}, api.MaxSteps+1), nil, api.ErrLong}, {"q", slices.Repeat([]api.Kind{1}, api.MaxSteps), nil, api.Spot{Err: api.ErrPointer}},
	} {
		l, err := bind.Row(tree, c.p, c.kinds)
		if !reflect.DeepEqual(err, c.err) || !slices.EqualFunc(l, c.want, func(a, b api.Bound) bool { return is(a, b) }) {
			t.Errorf("case %d: %v, %v", i, l, err)
		}
	}
	if l, err := bind.Row(nil, "x", []api.Kind{0}); l != nil || err != api.ErrNil {
		t.Errorf("Row of nil: %v", err)
	}
}

func TestFields(t *testing.T) {
	tree := read(t, example)
	field := func(key string, k api.Kind, need bool) api.Field {
		return api.Field{Key: key, Kind: k, Need: need}
	}
	missing := (*api.Missing)(nil)
	for i, c := range []struct {
		p      string
		fields []api.Field
		want   []api.Bound
		err    error
	}{
		{"", []api.Field{field("n", api.KindU16, true), field("no", api.KindI8, false), field("x", api.KindEmpty, true)}, []api.Bound{api.U16(300), missing, api.Empty{}}, nil},
		{"", []api.Field{field("n", api.KindI8, false), field("no", api.KindI8, true)}, nil, api.All{trail(api.ErrFit, "/n"), trail(api.ErrNone, "/no")}}, {"", nil, nil, nil}, {"/o", []api.Field{field("a/b", api.KindChars, false), field("~", api.KindI8, true)}, nil, api.All{trail(api.ErrSort, "/o/a~1b"), trail(api.ErrNone, "/o/~0")}},
		{"/o", []api.Field{field("\xFF", api.KindI8, false), field("a/b", api.KindI8, false), field("\xFE", api.KindI8, true)}, nil, api.All{trail(api.ErrText, "/o"), trail(api.ErrText, "/o")}}, {"", []api.Field{field("m", api.KindI8, true), field("m", api.KindI64, false), field("z", api.KindBytes, false)}, nil, api.All{trail(api.ErrFit, "/z/1")}}, {"", []api.Field{field("m", api.KindI8, true), field("m", api.KindI64, false)}, []api.Bound{api.I8(-1), api.I64(-1)}, nil},
		{"/z", nil, nil, trail(api.ErrSort, "/z")}, {"/n", []api.Field{field("a", 1, true)}, nil, trail(api.ErrSort, "/n")}, {"/q/r", nil, nil, trail(api.ErrNone, "")}, {"q", nil, nil, api.Spot{Err: api.ErrPointer}}, {"q", []api.Field{field("n", 1, true), field("n", 0, true)}, nil, api.ErrArg}, {"q", []api.Field{field("n", 20, true)}, nil, api.ErrArg},
		{"q", make([]api.Field, api.MaxSteps+1), nil, api.ErrArg}, {"q", slices.Repeat([]api.Field{{Kind: 1}}, api.MaxSteps+1), nil, api.ErrLong}, {"q", slices.Repeat([]api.Field{{Kind: 1}}, api.MaxSteps), nil, api.Spot{Err: api.ErrPointer}},
	} {
		l, err := bind.Fields(tree, c.p, c.fields)
		if !reflect.DeepEqual(err, c.err) || !slices.EqualFunc(l, c.want, func(a, b api.Bound) bool { return is(a, b) }) {
			t.Errorf("case %d: %#v, %v", i, l, err)
		}
	}
	l, err := bind.Fields(tree, "", []api.Field{{Key: "no", Kind: 1}})
	if err != nil || len(l) != 1 || l[0] == nil || l[0].(*api.Missing) != nil || l[0].Kind() != 0 {
		t.Errorf("a field that is not there: %#v, %v", l, err)
	}
	if l, err := bind.Fields(nil, "x", []api.Field{{}}); l != nil || err != api.ErrNil {
		t.Errorf("Fields of nil: %v", err)
	}
}

// TestOneByOne: Row and Fields tell what Bind tells of each alone.
func TestOneByOne(t *testing.T) {
	r := rand.New(rand.NewSource(2))
	tree := read(t, `{"l":[null,true,1,300,-5,0.5,1e300,"é",[1,2],[1,"x"],{}],"o":{"0":null,"1":true,"2":1,"3":300,"4":-5,"5":0.5,"6":1e300,"7":"é","8":[1,2],"9":[1,"x"],"10":{}}}`)
	for range 500 {
		var kinds []api.Kind
		var fields []api.Field
		var want []api.Bound
		var faults, fieldFaults api.All
		for i := range 11 {
			k := api.Kind(1 + r.Intn(19))
			if r.Intn(8) > 0 {
				k = []api.Kind{api.KindEmpty, api.KindTruth, api.KindU8, api.KindI16, api.KindI8, api.KindF32, api.KindF64, api.KindChars, api.KindBytes, 0, 0}[i]
			}
			if i > 8 {
				k = api.KindC64
			}
			kinds = append(kinds, k)
			fields = append(fields, api.Field{Key: strconv.Itoa(i), Kind: k})
			b, err := bind.Bind(tree, "/l/"+strconv.Itoa(i), k)
			want = append(want, b)
			if err != nil {
				faults = append(faults, err)
				p := err.(api.Trail)
				p.Pointer = strings.Replace(p.Pointer, "/l", "/o", 1)
				fieldFaults = append(fieldFaults, p)
			}
		}
		_, err := bind.Row(tree, "/l", kinds)
		_, err2 := bind.Fields(tree, "/o", fields)
		if !reflect.DeepEqual(err, error(faults)) || !reflect.DeepEqual(err2, error(fieldFaults)) {
			t.Fatalf("Row, Fields: %v, %v, want %v", err, err2, faults)
		}
	}
}

func TestTotal(t *testing.T) {
	for s, c := range map[string]struct {
		x   float64
		err error
	}{
		"[1e308, 1e308, 1]": {0, trail(api.ErrFit, "/1")}, "[0.1, 0.2, 0.3]": {0.1 + 0.2 + 0.3 - 0, nil}, "[]": {}, "[1, 2, 3]": {6, nil}, "1": {0, trail(api.ErrSort, "")}, "[1, \"x\", null]": {0, trail(api.ErrSort, "/1")}, "[1e308, 1e308, null]": {0, trail(api.ErrSort, "/2")}, "{}": {0, trail(api.ErrSort, "")}, "[-1e308, -1e308]": {0, trail(api.ErrFit, "/1")}, "[1e308, -1e308, 1e308]": {1e308, nil}, "[1, -1]": {}, "[[1, 2]]": {0, trail(api.ErrSort, "/0")},
	} {
		if s == "[0.1, 0.2, 0.3]" {
			c.x = 0.6000000000000001
		}
		x, err := bind.Total(read(t, s), "")
		if math.Float64bits(float64(x)) != math.Float64bits(c.x) || err != c.err {
			t.Errorf("Total of %s: %v, %v", s, x, err)
		}
	}
	r := rand.New(rand.NewSource(3))
	for range 300 {
		var l []string
		want := 0.0
		for range r.Intn(30) {
			x := r.NormFloat64() * math.Pow(10, float64(r.Intn(20)))
			l = append(l, strconv.FormatFloat(x, 'g', -1, 64))
			want += x
		}
		if x, err := bind.Total(read(t, `{"l":[`+strings.Join(l, ",")+"]}"), "/l"); float64(x) != want || err != nil {
			t.Fatalf("Total of %v: %v, %v, want %v", l, x, err, want)
		}
	}
	tree := read(t, example)
	for p, want := range map[string]error{"q": api.Spot{Err: api.ErrPointer}, "/q": trail(api.ErrNone, ""), "/w": trail(api.ErrSort, "/w/1"), "/n": trail(api.ErrSort, "/n")} {
		if x, err := bind.Total(tree, p); x != 0 || err != want {
			t.Errorf("Total at %s: %v, %v", p, x, err)
		}
	}
	if x, err := bind.Total(nil, "q"); x != 0 || err != api.ErrNil {
		t.Errorf("Total of nil: %v", err)
	}
}

func TestProduct(t *testing.T) {
	for s, c := range map[string]struct {
		z   complex128
		err error
	}{
		"[[0, 1], [0, 1]]": {complex(-1, 0), nil}, "[]": {complex(1, 0), nil}, "[[2, 3]]": {complex(2, 3), nil}, "[[1, 2], [3, 4], [5, -6]]": {complex(-5*5+10*6, -5*-6+10*5), nil}, "[[1e200, 0], [1e200, 0], [0, 0]]": {0, trail(api.ErrFit, "/1")}, "[[0, 1e200], [0, 1e200]]": {0, trail(api.ErrFit, "/1")}, "[[1e200, 1e200], [1e200, 1e200]]": {0, trail(api.ErrFit, "/1")}, "[[1, 2], [1]]": {0, trail(api.ErrPair, "/1")}, "[[1, 2], [1, null]]": {0, trail(api.ErrSort, "/1/1")}, "[1]": {0, trail(api.ErrSort, "/0")}, "1": {0, trail(api.ErrSort, "")}, "[[1e300, 0], [1e300, 0], {}]": {0, trail(api.ErrSort, "/2")}, "[[1, 1e308], [0, 10]]": {0, trail(api.ErrFit, "/1")}, "[[0, 0], [-1, 0]]": {0, nil}, "[[-1, 0], [0, 0]]": {0, nil}, "[[1e-300, 0], [-1e-300, 0]]": {0, nil},
	} {
		z, err := bind.Product(read(t, s), "")
		if complex128(z) != c.z || math.Signbit(real(z)) && real(z) == 0 || math.Signbit(imag(z)) && imag(z) == 0 || err != c.err {
			t.Errorf("Product of %s: %v, %v", s, z, err)
		}
	}
	r := rand.New(rand.NewSource(4))
	for range 300 {
		var l []string
		a, b := 1.0, 0.0
		for range r.Intn(8) {
			c, d := r.NormFloat64(), r.NormFloat64()
			l = append(l, "["+strconv.FormatFloat(c, 'g', -1, 64)+","+strconv.FormatFloat(d, 'g', -1, 64)+"]")
			ac, bd, ad, bc := float64(a*c), float64(b*d), float64(a*d), float64(b*c)
			a, b = float64(ac-bd), float64(ad+bc)
		}
		if z, err := bind.Product(read(t, `{"l":[`+strings.Join(l, ",")+"]}"), "/l"); complex128(z) != complex(a, b) || err != nil {
			t.Fatalf("Product of %v: %v, %v, want %v", l, z, err, complex(a, b))
		}
	}
	if z, err := bind.Product(nil, "q"); z != 0 || err != api.ErrNil {
		t.Errorf("Product of nil: %v", err)
	}
	if z, err := bind.Product(read(t, "1"), "q"); z != 0 || err != (api.Spot{Err: api.ErrPointer}) {
		t.Errorf("Product at no pointer: %v", err)
	}
}

// TestMinusOnTheWay: minus nought may come on the way, and decides what follows.
func TestMinusOnTheWay(t *testing.T) {
	z, err := bind.Product(read(t, "[[-1,0],[0,1],[0,1],[5e-324,-5e-324],[0.25,0.25]]"), "")
	a, b := 1.0, 0.0
	for _, p := range [][2]float64{{-1, 0}, {0, 1}, {0, 1}, {5e-324, -5e-324}, {0.25, 0.25}} {
		c, d := p[0], p[1]
		ac, bd, ad, bc := float64(a*c), float64(b*d), float64(a*d), float64(b*c)
		a, b = float64(ac-bd), float64(ad+bc)
	}
	if err != nil || complex128(z) != complex(a, b) {
		t.Errorf("Product: %v, %v, want %v", z, err, complex(a, b))
	}
}

func TestNarrowErrors(t *testing.T) {
	tree := read(t, example)
	for p, c := range map[string]struct {
		want api.Whole
		err  error
	}{"/n": {api.U16(300), nil}, "/m": {api.I8(-1), nil}, "/f": {nil, trail(api.ErrWhole, "/f")}, "/s": {nil, trail(api.ErrSort, "/s")}, "/z": {nil, trail(api.ErrSort, "/z")}, "/h/0": {nil, trail(api.ErrFit, "/h/0")}, "/b/0": {api.U8(0), nil}, "/q": {nil, trail(api.ErrNone, "")}, "q": {nil, api.Spot{Err: api.ErrPointer}}} {
		if w, err := bind.Narrow(tree, p); !is(w, c.want) || err != c.err {
			t.Errorf("Narrow at %s: %#v, %v", p, w, err)
		}
	}
	if w, err := bind.Narrow(nil, "q"); w != nil || err != api.ErrNil {
		t.Errorf("Narrow of nil: %v", err)
	}
}

func TestMemory(t *testing.T) {
	tree := read(t, `[[1,2],[1,2]]`)
	a, _ := bind.Bind(tree, "/0", api.KindBytes)
	b, _ := bind.Bind(tree, "/0", api.KindFloats)
	a.(api.Bytes)[0], b.(api.Floats)[0] = 9, 9
	_ = append(a.(api.Bytes), 7, 7, 7)
	l, err := bind.Row(tree, "", []api.Kind{api.KindBytes, api.KindFloats})
	if err != nil || !is(l[0], api.Bytes{1, 2}) || !is(l[1], api.Floats{1, 2}) {
		t.Errorf("what is bound is shared: %v, %v", l, err)
	}
}
