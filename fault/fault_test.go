package fault_test

import (
	"errors"
	"math"
	"math/rand"
	"reflect"
	"slices"
	"testing"

	"affidavit/api"
	"affidavit/fault"
)

var (
	none = api.Cause{Kind: api.CauseNone}
	gone = api.Cause{Kind: api.CauseGone}
)

func number(no api.Errno) api.Cause { return api.Cause{Kind: api.CauseNumber, No: no} }
func spot(no api.Errno, at int) api.Cause {
	return api.Cause{Kind: api.CauseSpot, No: no, At: at}
}
func trail(no api.Errno, p string) api.Cause {
	return api.Cause{Kind: api.CauseTrail, No: no, Text: p}
}
func note(word string) api.Cause { return api.Cause{Kind: api.CauseNote, Text: word} }
func all(n int) api.Cause        { return api.Cause{Kind: api.CauseAll, Count: n} }

func steps(l ...api.Cause) []api.Cause { return l }

var third = steps(spot(7, 3), none, trail(8, "/a"), all(3))

func TestBuild(t *testing.T) {
	for i, c := range []struct {
		l    []api.Cause
		want error
	}{
		{steps(number(7)), api.Errno(7)}, {steps(none), nil}, {steps(gone), (*api.Note)(nil)}, {steps(number(7), note("x")), &api.Note{Word: "x", Err: api.Errno(7)}},
		{third, api.All{api.Spot{Err: 7, At: 3}, nil, api.Trail{Err: 8, Pointer: "/a"}}}, {steps(all(0)), api.All{}}, {steps(none, note("")), &api.Note{}}, {steps(gone, note("y")), &api.Note{Word: "y", Err: (*api.Note)(nil)}},
		{steps(number(0)), api.OK}, {steps(spot(0, -5)), api.Spot{At: -5}}, {steps(trail(1, "\xFF")), api.Trail{Err: 1, Pointer: "\xFF"}},
		{steps(number(1), number(2), number(3), all(2), all(2)), api.All{api.Errno(1), api.All{api.Errno(2), api.Errno(3)}}},
		{steps(number(1), all(0), all(2)), api.All{api.Errno(1), api.All{}}},
		{steps(api.Cause{Kind: api.CauseNumber, No: 4, At: 9, Text: "x", Count: -1}), api.Errno(4)}, {steps(api.Cause{Kind: api.CauseNone, No: 4, Count: -1}), nil},
	} {
		e, err := fault.Build(c.l)
		if err != nil || reflect.TypeOf(e) != reflect.TypeOf(c.want) || len(c.l) > 0 && !equal(e, c.want) {
			t.Errorf("case %d: %#v, %v", i, e, err)
		}
	}
	e, _ := fault.Build(steps(number(7), note("x")))
	if e.Error() != "x: affidavit: error 7" {
		t.Errorf("Error: %s", e)
	}
	if e, _ := fault.Build(steps(gone)); e == nil {
		t.Error("a *Note that is nil is nil itself")
	}
}

// equal tells whether two errors have the same shape and the same fields.
func equal(e, f error) bool {
	a, ok := e.(api.All)
	b, ok2 := f.(api.All)
	if !ok || !ok2 {
		return reflect.DeepEqual(e, f)
	}
	return slices.EqualFunc(a, b, equal)
}

func TestBuildErrors(t *testing.T) {
	long := make([]api.Cause, api.MaxSteps+1)
	deep := steps(number(1))
	for range api.MaxDepth {
		deep = append(deep, note("x"))
	}
	deepAll := steps(spot(1, 1))
	for range api.MaxDepth - 1 {
		deepAll = append(deepAll, all(1))
	}
	for i, c := range []struct {
		l    []api.Cause
		want error
	}{
		{nil, api.Spot{Err: api.ErrPile}}, {steps(number(7), number(8)), api.Spot{Err: api.ErrPile, At: 2}}, {steps(note("x")), api.Spot{Err: api.ErrCause}}, {steps(all(1)), api.Spot{Err: api.ErrCause}}, {steps(api.Cause{Kind: 9}), api.Spot{Err: api.ErrCause}},
		{steps(number(1), all(-1)), api.Spot{Err: api.ErrCause, At: 1}}, {steps(number(1), all(2)), api.Spot{Err: api.ErrCause, At: 1}}, {steps(number(1), api.Cause{}), api.Spot{Err: api.ErrCause, At: 1}}, {steps(number(1), all(math.MinInt)), api.Spot{Err: api.ErrCause, At: 1}}, {steps(all(math.MaxInt)), api.Spot{Err: api.ErrCause}},
		{long, api.Spot{Err: api.ErrLong, At: api.MaxSteps}}, {deep, api.Spot{Err: api.ErrLong, At: api.MaxDepth}}, {deepAll, api.Spot{Err: api.ErrLong, At: api.MaxDepth - 1}}, {long[1:], api.Spot{Err: api.ErrCause}}, {steps(api.Cause{Kind: 8}), api.Spot{Err: api.ErrCause}}, {steps(api.Cause{Kind: -1}), api.Spot{Err: api.ErrCause}},
	} {
		e, err := fault.Build(c.l)
		if e != nil || err != c.want {
			t.Errorf("case %d: %v, %v, want %v", i, e, err, c.want)
		}
		n := 0
		for range fault.Each(c.l) {
			n++
		}
		l, err1 := fault.Look(c.l)
		is, err2 := fault.Is(c.l, 7)
		as, err3 := fault.As(c.l, 99)
		flat, err4 := fault.Flat(c.l)
		self, err5 := fault.Self(c.l)
		same, err6 := fault.Same(c.l, steps(all(-2)))
		after, err7 := fault.Same(steps(none), c.l)
		if n != 0 || len(l) != 0 || is || as != nil || flat != nil || self != (api.Alike{}) || same != (api.Alike{}) || after != (api.Alike{}) {
			t.Errorf("case %d: something beside an error", i)
		}
		for _, err := range []error{err1, err2, err3, err4, err5, err6, err7} {
			if err != c.want {
				t.Errorf("case %d: %v, want %v", i, err, c.want)
			}
		}
	}
	for _, l := range [][]api.Cause{deep[:api.MaxDepth], deepAll[:api.MaxDepth-1]} { // at the limit
		if e, err := fault.Build(l); e == nil || err != nil {
			t.Errorf("as deep as may be: %v", err)
		}
	}
	most := make([]api.Cause, api.MaxSteps)
	for i := range most {
		most[i] = none
	}
	most[len(most)-1] = all(len(most) - 1)
	if e, err := fault.Build(most); err != nil || len(e.(api.All)) != len(most)-1 {
		t.Errorf("as many steps as may be: %v", err)
	}
	if _, err := fault.Build(most[:len(most)-1]); err != (api.Spot{Err: api.ErrPile, At: len(most) - 1}) {
		t.Errorf("too many on the pile: %v", err)
	}
}

func TestLook(t *testing.T) {
	l, err := fault.Look(third)
	want := []api.Seen{{Kind: api.CauseAll, Depth: 1, Count: 3}, {Kind: api.CauseSpot, Depth: 2, No: 7, At: 3}, {Kind: api.CauseNumber, Depth: 3, No: 7}, {Kind: api.CauseNone, Depth: 2}, {Kind: api.CauseTrail, Depth: 2, No: 8, Text: "/a"}, {Kind: api.CauseNumber, Depth: 3, No: 8}}
	if err != nil || !slices.Equal(l, want) {
		t.Errorf("Look: %v, %v", l, err)
	}
	l, _ = fault.Look(steps(gone, note("w"), number(9), note("v"), none, note("u"), all(3)))
	want = []api.Seen{{Kind: api.CauseAll, Depth: 1, Count: 3}, {Kind: api.CauseNote, Depth: 2, Text: "w"}, {Kind: api.CauseGone, Depth: 3}, {Kind: api.CauseNote, Depth: 2, Text: "v"}, {Kind: api.CauseNumber, Depth: 3, No: 9}, {Kind: api.CauseNote, Depth: 2, Text: "u"}}
	if !slices.Equal(l, want) {
		t.Errorf("Look: %v", l)
	}
	if l, _ := fault.Look(steps(none)); !slices.Equal(l, []api.Seen{{Kind: api.CauseNone, Depth: 1}}) {
		t.Errorf("Look of nil: %v", l)
	}
	if l, _ := fault.Look(steps(all(0))); !slices.Equal(l, []api.Seen{{Kind: api.CauseAll, Depth: 1}}) {
		t.Errorf("Look of an All without errors: %v", l)
	}
}

// random are steps that may be done.
func random(r *rand.Rand) []api.Cause {
	var l []api.Cause
	laid := 0
	for range 1 + r.Intn(14) {
		switch k := r.Intn(9); {
		case k == 0:
			l = append(l, none)
		case k < 3:
			l = append(l, number(api.Errno(r.Intn(4))))
		case k == 3:
			l = append(l, spot(api.Errno(r.Intn(4)), r.Intn(3)))
		case k == 4:
			l = append(l, trail(api.Errno(r.Intn(4)), "/x"))
		case k == 5:
			l = append(l, gone)
		case k < 8 && laid > 0:
			l = append(l, note("n"))
			laid--
		default:
			n := r.Intn(laid + 1)
			l = append(l, all(n))
			laid -= n
		}
		laid++
	}
	if laid > 1 {
		l = append(l, all(laid))
	}
	return l
}

type inner struct {
	depth int
	err   error
}

// walked is what is in an error, by the words of the document.
func walked(e error, depth int) []inner {
	l := []inner{{depth, e}}
	switch x := e.(type) {
	case api.Spot:
		l = append(l, inner{depth + 1, x.Err})
	case api.Trail:
		l = append(l, inner{depth + 1, x.Err})
	case *api.Note:
		if x != nil && x.Err != nil {
			l = append(l, walked(x.Err, depth+1)...)
		}
	case api.All:
		for _, e := range x {
			l = append(l, walked(e, depth+1)...)
		}
	}
	return l
}

func TestEach(t *testing.T) {
	r := rand.New(rand.NewSource(1))
	for range 3000 {
		l := random(r)
		e, err := fault.Build(l)
		if err != nil {
			t.Fatalf("%v: %v", l, err)
		}
		want := walked(e, 1)
		each := fault.Each(l)
		looked, _ := fault.Look(l)
		for range 2 { // gone over again
			var got []inner
			for depth, e := range each {
				got = append(got, inner{depth, e})
			}
			if len(got) != len(want) || len(looked) != len(want) {
				t.Fatalf("Each of %v: %v, want %v", l, got, want)
			}
			for i := range got {
				if got[i].depth != want[i].depth || looked[i].Depth != want[i].depth || !equal(got[i].err, want[i].err) {
					t.Fatalf("Each of %v: %v, want %v", l, got, want)
				}
				checkAssertions(t, got[i].err, looked[i])
			}
		}
		for n := range want { // left early
			k := 0
			for range each {
				if k++; k > n {
					break
				}
			}
			if k != n+1 {
				t.Fatalf("left behind %d", k)
			}
		}
	}
}

// checkAssertions: P8.6.
func checkAssertions(t *testing.T, e error, s api.Seen) {
	t.Helper()
	_, placed := e.(api.Placed)
	_, located := e.(api.Located)
	_, several := e.(api.Several)
	want := map[int]reflect.Type{api.CauseNone: nil, api.CauseNumber: reflect.TypeOf(api.OK), api.CauseSpot: reflect.TypeOf(api.Spot{}), api.CauseTrail: reflect.TypeOf(api.Trail{}), api.CauseNote: reflect.TypeOf(&api.Note{}), api.CauseGone: reflect.TypeOf(&api.Note{}), api.CauseAll: reflect.TypeOf(api.All{})}
	if reflect.TypeOf(e) != want[s.Kind] || placed != (s.Kind == api.CauseSpot) || located != (s.Kind == api.CauseTrail) || several != (s.Kind == api.CauseAll) {
		t.Fatalf("%#v is seen as %v", e, s)
	}
}

func TestIsAndAs(t *testing.T) {
	for no, want := range map[api.Errno]bool{7: true, 8: true, 9: false, 0: false} {
		if is, err := fault.Is(third, no); is != want || err != nil {
			t.Errorf("Is(%d): %v, %v", no, is, err)
		}
	}
	if e, err := fault.As(third, api.CauseNumber); e != api.Errno(7) || err != nil {
		t.Errorf("As of a number: %v, %v", e, err)
	}
	if e, err := fault.As(third, api.CauseNote); e != nil || err != api.ErrNone {
		t.Errorf("As of a Note: %v, %v", e, err)
	}
	for _, kind := range []int{api.CauseNone, api.CauseGone, 0, 8, -1, math.MaxInt} {
		if e, err := fault.As(third, kind); e != nil || err != api.ErrArg {
			t.Errorf("As of the kind %d: %v, %v", kind, e, err)
		}
	}
	if e, err := fault.As(steps(gone), api.CauseNote); e != (*api.Note)(nil) || err != nil {
		t.Errorf("As of a Note that is nil: %v, %v", e, err)
	}
	r := rand.New(rand.NewSource(2))
	for range 3000 {
		l := random(r)
		e, _ := fault.Build(l)
		for no := range api.Errno(5) {
			in := slices.ContainsFunc(walked(e, 1), func(i inner) bool { return i.err == error(no) })
			if is, err := fault.Is(l, no); is != errors.Is(e, no) || is != in || err != nil {
				t.Fatalf("Is(%v, %d): %v, %v", l, no, is, err)
			}
		}
		checkAs(t, l, e)
	}
}

// checkAs: As finds what errors.As finds.
func checkAs(t *testing.T, l []api.Cause, e error) {
	t.Helper()
	var no api.Errno
	var s api.Spot
	var tr api.Trail
	var n *api.Note
	var a api.All
	for kind, f := range map[int]func() (error, bool){
		api.CauseNumber: func() (error, bool) { ok := errors.As(e, &no); return no, ok },
		api.CauseSpot:   func() (error, bool) { ok := errors.As(e, &s); return s, ok },
		api.CauseTrail:  func() (error, bool) { ok := errors.As(e, &tr); return tr, ok },
		api.CauseNote:   func() (error, bool) { ok := errors.As(e, &n); return n, ok },
		api.CauseAll:    func() (error, bool) { ok := errors.As(e, &a); return a, ok },
	} {
		want, ok := f()
		got, err := fault.As(l, kind)
		if ok && (err != nil || !equal(got, want)) || !ok && (err != api.ErrNone || got != nil) {
			t.Fatalf("As(%v, %d): %v, %v, want %v, %v", l, kind, got, err, want, ok)
		}
	}
}

func TestFlat(t *testing.T) {
	e, err := fault.Flat(third)
	if err != nil || !equal(e, api.All{api.Spot{Err: 7, At: 3}, api.Trail{Err: 8, Pointer: "/a"}}) {
		t.Errorf("Flat: %v, %v", e, err)
	}
	if e, err := fault.Flat(steps(number(7), note("x"), note("y"))); e != api.Errno(7) || err != nil {
		t.Errorf("Flat of a number within Notes: %v, %v", e, err)
	}
	for _, l := range [][]api.Cause{steps(all(0)), steps(none), steps(gone), steps(gone, none, note("x"), all(2))} {
		if e, err := fault.Flat(l); e != nil || err != nil {
			t.Errorf("Flat of nothing: %v, %v", e, err)
		}
	}
	r := rand.New(rand.NewSource(3))
	for range 3000 {
		l := random(r)
		e, _ := fault.Build(l)
		var want api.All
		var last error
		for _, i := range walked(e, 1) {
			_, placed := last.(api.Spot)
			_, located := last.(api.Trail)
			switch i.err.(type) {
			case api.Errno:
				if !placed && !located {
					want = append(want, i.err)
				}
			case api.Spot, api.Trail:
				want = append(want, i.err)
			}
			last = i.err
		}
		got, err := fault.Flat(l)
		switch {
		case err != nil, len(want) == 0 && got != nil, len(want) == 1 && got != want[0], len(want) > 1 && !equal(got, want):
			t.Fatalf("Flat(%v): %v, %v, want %v", l, got, err, want)
		}
		for no := range api.Errno(5) {
			if errors.Is(got, no) != errors.Is(e, no) {
				t.Fatalf("Flat(%v): %v", l, got)
			}
		}
	}
}

func TestSameAndSelf(t *testing.T) {
	equal, panicked, not := api.Alike{Equal: true}, api.Alike{Panicked: true}, api.Alike{}
	x := steps(number(7), note("x"))
	for i, c := range []struct {
		a, b []api.Cause
		want api.Alike
	}{
		{steps(number(7)), steps(number(7)), equal}, {steps(number(7)), steps(number(8)), not}, {steps(spot(7, 3)), steps(number(7)), not}, {steps(gone), steps(gone), equal}, {steps(none), steps(gone), not}, {steps(none), steps(none), equal}, {steps(all(0)), steps(all(0)), panicked},
		{x, x, not}, {steps(gone), x, not}, {steps(spot(7, 3)), steps(spot(7, 3)), equal}, {steps(spot(7, 3)), steps(spot(7, 4)), not}, {steps(trail(7, "/a")), steps(trail(7, "/a")), equal}, {steps(trail(7, "/a")), steps(trail(7, "/b")), not}, {steps(all(0)), steps(none), not}, {third, steps(all(0)), panicked}, {third, x, not},
	} {
		if a, err := fault.Same(c.a, c.b); a != c.want || err != nil {
			t.Errorf("case %d: Same: %v, %v", i, a, err)
		}
		if a, err := fault.Same(c.b, c.a); a != c.want || err != nil {
			t.Errorf("case %d: Same turned about: %v, %v", i, a, err)
		}
	}
	for i, c := range []struct {
		l    []api.Cause
		want api.Alike
	}{{x, equal}, {steps(all(0)), panicked}, {third, panicked}, {steps(none), equal}, {steps(gone), equal}, {steps(number(1)), equal}, {steps(all(0), note("x")), equal}} {
		if a, err := fault.Self(c.l); a != c.want || err != nil {
			t.Errorf("case %d: Self: %v, %v", i, a, err)
		}
	}
	if _, err := fault.Same(steps(all(1)), steps(note("x"))); err != (api.Spot{Err: api.ErrCause}) {
		t.Errorf("Same of no errors: %v", err)
	}
}

func TestMemory(t *testing.T) {
	l := slices.Clone(third)
	each := fault.Each(l)
	l[0].No = 99
	for range 2 {
		for depth, e := range each {
			a, ok := e.(api.All)
			if depth == 1 && (!ok || a[0] != api.Spot{Err: 7, At: 3}) {
				t.Errorf("Each is shared: %v", a)
			}
			if ok {
				a[0] = nil
			}
			break
		}
	}
	var told []error
	for _, e := range fault.Each(third) { // what is written into an error skips nothing
		if a, ok := e.(api.All); ok {
			clear(a)
		}
		told = append(told, e)
	}
	if len(told) != 6 || told[1] != (api.Spot{Err: 7, At: 3}) || told[5] != api.Errno(8) {
		t.Errorf("Each, written into: %v", told)
	}
	a, _ := fault.Build(third)
	b, _ := fault.Build(third)
	a.(api.All)[0] = nil
	if b.(api.All)[0] == nil {
		t.Error("Build is shared")
	}
}
