package ratio

import (
	"math"
	"slices"
	"testing"

	"artesian/api"
	"artesian/limbs"
	"artesian/signed"
)

// top is the greatest digit, half the one of which only the highest bit is 1.
const (
	top  = math.MaxUint64
	half = 1 << 63
)

// full tells a list of so many of the same digit.
func full(x uint64, count int) api.Nat {
	return slices.Repeat(api.Nat{x}, count)
}

// raw tells a whole number over a small one just as they are, whether that is a fraction or none.
func raw(up int, down uint64) api.Ratio {
	return api.Ratio{Up: signed.Of(up), Down: limbs.Of(down)}
}

// long tells digits over digits just as they are.
func long(below bool, up, down api.Nat) api.Ratio {
	return api.Ratio{Up: api.Int{Below: below, N: up}, Down: down}
}

// nones tells what is no fraction, of all kinds.
func nones() []api.Ratio {
	one := api.Nat{1}
	return []api.Ratio{
		{},
		// over 0
		raw(0, 0), raw(1, 0), raw(-1, 0), raw(5, 0), long(false, one, api.Nat{0}), long(false, full(top, 9), full(0, 9)),
		// not in lowest terms
		raw(2, 4), raw(-2, 4), raw(2, 2), raw(6, 3), raw(-6, 4), raw(math.MinInt, half), long(false, full(top, 4), full(top, 2)), long(true, api.Nat{0, 1}, api.Nat{2}), long(false, api.Nat{0, 3}, api.Nat{0, 7}),
		// 0 over more than 1
		raw(0, 2), raw(0, 7), raw(0, top), long(false, nil, api.Nat{0, 1}), long(false, api.Nat{}, full(top, 9)),
		// highest digits of 0
		long(false, api.Nat{0}, one), long(false, api.Nat{0, 0}, one), long(false, api.Nat{1, 0}, one), long(true, api.Nat{1, 0}, api.Nat{2}), long(false, one, api.Nat{1, 0}), long(true, api.Nat{3}, api.Nat{2, 0, 0}), long(false, nil, api.Nat{1, 0}), long(false, api.Nat{0, 1, 0}, one), long(true, api.Nat{5, 0}, api.Nat{7, 0}),
		// below 0 with an N of 0
		long(true, nil, one), long(true, api.Nat{}, one), long(true, api.Nat{0}, one), long(true, nil, api.Nat{2}), long(true, nil, nil),
	}
}

// same tells whether two fractions are the same, field by field.
func same(a, b api.Ratio) bool {
	return a.Up.Below == b.Up.Below && slices.Equal(a.Up.N, b.Up.N) && slices.Equal(a.Down, b.Down)
}

// want fails if a call doesn't answer just that fraction.
func want(t *testing.T, call string, got api.Ratio, err api.Errno, right api.Ratio) {
	t.Helper()
	if err != api.OK || !same(got, right) {
		t.Errorf("%s: got %v, %v, want %v", call, got, err, right)
	}
}

// wantErr fails if a call doesn't answer just that error, and the zero value beside it.
func wantErr(t *testing.T, call string, got api.Ratio, err, right api.Errno) {
	t.Helper()
	if err != right || !same(got, api.Ratio{}) {
		t.Errorf("%s: got %v, %v, want %v", call, got, err, right)
	}
}

// wantCmp fails if two fractions aren't so in order, from either side.
func wantCmp(t *testing.T, a, b api.Ratio, right int) {
	t.Helper()
	there, e := Cmp(a, b)
	back, f := Cmp(b, a)
	if e != api.OK || f != api.OK || there != right || back != -right {
		t.Errorf("Cmp(%v, %v): got %d, %v and back %d, %v, want %d", a, b, there, e, back, f, right)
	}
}

// wantRound fails if a fraction isn't rounded to that whole number.
func wantRound(t *testing.T, r api.Ratio, right api.Int) {
	t.Helper()
	got, e := Round(r)
	if e != api.OK || got.Below != right.Below || !slices.Equal(got.N, right.N) {
		t.Errorf("Round(%v): got %v, %v, want %v", r, got, e, right)
	}
}

// The chapter's table of examples

func TestExamplesOfMaking(t *testing.T) {
	r, e := Pair(6, -4)
	want(t, "Pair(6, -4)", r, e, raw(-3, 2))
	r, e = Pair(0, 7)
	want(t, "Pair(0, 7)", r, e, raw(0, 1))
	r, e = Pair(1, 0)
	wantErr(t, "Pair(1, 0)", r, e, api.ErrZero)
	r, e = Make(signed.Of(-4), api.Nat{6})
	want(t, "Make(-4, 6)", r, e, raw(-2, 3))
	if e := Check(raw(2, 4)); e != api.ErrForm {
		t.Error("Check(2 over 4)", e)
	}
}

func TestExamplesOfSumsAndProducts(t *testing.T) {
	r, e := Add(raw(1, 2), raw(1, 3), raw(1, 6))
	want(t, "Add(1/2, 1/3, 1/6)", r, e, raw(1, 1))
	r, e = Add()
	want(t, "Add()", r, e, raw(0, 1))
	r, e = Mul(raw(2, 3), raw(3, 4))
	want(t, "Mul(2/3, 3/4)", r, e, raw(1, 2))
	r, e = Mul()
	want(t, "Mul()", r, e, raw(1, 1))
	r, e = Sub(raw(1, 2), raw(1, 2))
	want(t, "Sub(1/2, 1/2)", r, e, raw(0, 1))
	r, e = Div(raw(1, 2), raw(-1, 4))
	want(t, "Div(1/2, -1/4)", r, e, raw(-2, 1))
	r, e = Div(raw(1, 2), raw(0, 1))
	wantErr(t, "Div(1/2, 0/1)", r, e, api.ErrZero)
	r, e = Add(raw(2, 4))
	wantErr(t, "Add(2 over 4)", r, e, api.ErrForm)
}

func TestExamplesOfTheOthers(t *testing.T) {
	wantCmp(t, raw(1, 2), raw(2, 3), -1)
	r, e := Power(raw(2, 3), 3)
	want(t, "Power(2/3, 3)", r, e, raw(8, 27))
	r, e = Power(raw(2, 3), -2)
	want(t, "Power(2/3, -2)", r, e, raw(9, 4))
	r, e = Power(raw(0, 1), -1)
	wantErr(t, "Power(0/1, -1)", r, e, api.ErrZero)
	r, e = Power(raw(0, 1), 0)
	want(t, "Power(0/1, 0)", r, e, raw(1, 1))
	r, e = Power(raw(1, 2), 10001)
	wantErr(t, "Power(1/2, 10,001)", r, e, api.ErrRange)
	wantRound(t, raw(5, 2), signed.Of(2))
	wantRound(t, raw(7, 2), signed.Of(4))
	wantRound(t, raw(-1, 3), signed.Of(0))
}

// P5.1

func TestCheckTellsFractions(t *testing.T) {
	for _, r := range []api.Ratio{
		raw(0, 1), long(false, api.Nat{}, api.Nat{1}), raw(1, 1), raw(-1, 1), raw(1, 2), raw(-3, 2), raw(7, 1), raw(math.MinInt, 1), raw(math.MinInt, top), raw(1, top),
		long(false, api.Nat{0, 1}, api.Nat{3}), long(true, api.Nat{3}, api.Nat{0, 1}), long(false, api.Nat{1}, full(top, 40)), long(true, full(top, 40), api.Nat{1}), long(false, append(full(0, 40), 1), full(top, 40)),
	} {
		if e := Check(r); e != api.OK {
			t.Errorf("Check(%v): %v", r, e)
		}
	}
}

func TestCheckRefusesNones(t *testing.T) {
	for _, r := range nones() {
		if e := Check(r); e != api.ErrForm {
			t.Errorf("Check(%v): %v", r, e)
		}
	}
}

func TestMakeDividesOutWhatIsCommon(t *testing.T) {
	for _, x := range []struct{ up, down, n, under api.Nat }{
		{nil, api.Nat{1}, nil, api.Nat{1}}, {nil, api.Nat{7}, nil, api.Nat{1}}, {nil, full(top, 9), nil, api.Nat{1}}, {nil, api.Nat{7, 0, 0}, nil, api.Nat{1}},
		{api.Nat{1}, api.Nat{1}, api.Nat{1}, api.Nat{1}}, {api.Nat{4}, api.Nat{6}, api.Nat{2}, api.Nat{3}}, {api.Nat{4}, api.Nat{6, 0}, api.Nat{2}, api.Nat{3}}, {api.Nat{6}, api.Nat{3}, api.Nat{2}, api.Nat{1}}, {api.Nat{3}, api.Nat{6}, api.Nat{1}, api.Nat{2}}, {api.Nat{7}, api.Nat{9}, api.Nat{7}, api.Nat{9}},
		{api.Nat{7}, api.Nat{9, 0, 0, 0}, api.Nat{7}, api.Nat{9}}, {api.Nat{0, 6}, api.Nat{0, 4}, api.Nat{3}, api.Nat{2}}, {api.Nat{0, 1}, api.Nat{half}, api.Nat{2}, api.Nat{1}}, {api.Nat{half}, api.Nat{0, 1, 0}, api.Nat{1}, api.Nat{2}},
		{full(top, 6), full(top, 4), api.Nat{1, 0, 1, 0, 1}, api.Nat{1, 0, 1}}, {full(top, 40), full(top, 40), api.Nat{1}, api.Nat{1}}, {api.Nat{1, 2, 3}, api.Nat{4, 13, 22, 15}, api.Nat{1}, api.Nat{4, 5}},
	} {
		r, e := Make(api.Int{N: x.up}, x.down)
		want(t, "Make, above 0", r, e, long(false, x.n, x.under))
		if len(x.up) > 0 {
			r, e = Make(api.Int{Below: true, N: x.up}, x.down)
			want(t, "Make, below 0", r, e, long(true, x.n, x.under))
		}
	}
}

func TestMakeRefuses(t *testing.T) {
	noughts := []api.Nat{nil, {}, {0}, {0, 0}, full(0, 40)}
	for _, up := range []api.Int{{Below: true}, {Below: true, N: api.Nat{}}, {N: api.Nat{0}}, {Below: true, N: api.Nat{0}}, {N: api.Nat{1, 0}}, {Below: true, N: api.Nat{1, 0}}, {N: full(0, 40)}} {
		// An Int that is none is told ahead of a 0 below.
		for _, down := range append(noughts, api.Nat{1}, api.Nat{6, 0}, full(top, 9)) {
			r, e := Make(up, down)
			wantErr(t, "Make of none", r, e, api.ErrForm)
		}
	}
	for _, up := range []api.Int{{}, signed.Of(1), signed.Of(-1), signed.Of(math.MinInt), {N: full(top, 40)}} {
		for _, down := range noughts {
			r, e := Make(up, down)
			wantErr(t, "Make over 0", r, e, api.ErrZero)
		}
	}
}

func TestPairTakesBothSides(t *testing.T) {
	for _, x := range []struct {
		up, down int
		right    api.Ratio
	}{
		{0, 1, raw(0, 1)}, {0, -1, raw(0, 1)}, {0, -7, raw(0, 1)}, {0, math.MinInt, raw(0, 1)}, {0, math.MaxInt, raw(0, 1)},
		{6, 4, raw(3, 2)}, {-6, 4, raw(-3, 2)}, {6, -4, raw(-3, 2)}, {-6, -4, raw(3, 2)}, {5, 5, raw(1, 1)}, {5, -5, raw(-1, 1)}, {-5, -5, raw(1, 1)}, {-5, 1, raw(-5, 1)}, {-5, -1, raw(5, 1)},
		{math.MinInt, math.MinInt, raw(1, 1)}, {math.MinInt, 1, raw(math.MinInt, 1)}, {math.MinInt, -1, long(false, api.Nat{half}, api.Nat{1})}, {1, math.MinInt, raw(-1, half)}, {-1, math.MinInt, raw(1, half)}, {math.MinInt, 2, raw(-1<<62, 1)}, {6, math.MinInt, raw(-3, 1<<62)},
		{math.MaxInt, math.MaxInt, raw(1, 1)}, {math.MaxInt, math.MinInt, raw(-math.MaxInt, half)}, {math.MinInt, math.MaxInt, raw(math.MinInt, math.MaxInt)}, {math.MaxInt, -7, raw(-math.MaxInt/7, 1)},
	} {
		r, e := Pair(x.up, x.down)
		want(t, "Pair", r, e, x.right)
	}
	for _, up := range []int{0, 1, -1, math.MinInt, math.MaxInt} {
		r, e := Pair(up, 0)
		wantErr(t, "Pair over 0", r, e, api.ErrZero)
	}
}

// In all others ErrForm comes first.

func TestNoneIsRefusedAheadOfAllElse(t *testing.T) {
	for _, bad := range nones() {
		for _, n := range []int{0, 1, -1, 10000, 10001, -10001, math.MinInt, math.MaxInt} {
			r, e := Power(bad, n)
			wantErr(t, "Power", r, e, api.ErrForm)
		}
		if n, e := Round(bad); e != api.ErrForm || n.Below || len(n.N) != 0 {
			t.Errorf("Round(%v): %v, %v", bad, n, e)
		}
		for _, other := range append([]api.Ratio{raw(0, 1), raw(1, 1), raw(-3, 2)}, nones()...) {
			wantRefused(t, bad, other)
			wantRefused(t, other, bad)
		}
	}
}

// wantRefused fails if a call of two, of which one is none, isn't refused by that.
func wantRefused(t *testing.T, a, b api.Ratio) {
	t.Helper()
	r, e := Sub(a, b)
	wantErr(t, "Sub", r, e, api.ErrForm)
	r, e = Div(a, b)
	wantErr(t, "Div", r, e, api.ErrForm)
	r, e = Add(a, b)
	wantErr(t, "Add", r, e, api.ErrForm)
	r, e = Mul(a, b)
	wantErr(t, "Mul", r, e, api.ErrForm)
	if n, e := Cmp(a, b); n != 0 || e != api.ErrForm {
		t.Errorf("Cmp(%v, %v): %d, %v", a, b, n, e)
	}
}

func TestNoneIsRefusedAtEachPlace(t *testing.T) {
	good := []api.Ratio{raw(1, 2), raw(0, 1), raw(-5, 3), raw(7, 1)}
	for _, bad := range nones() {
		for place := range len(good) + 1 {
			l := slices.Insert(slices.Clone(good), place, bad)
			r, e := Add(l...)
			wantErr(t, "Add", r, e, api.ErrForm)
			r, e = Mul(l...)
			wantErr(t, "Mul", r, e, api.ErrForm)
		}
		r, e := Add(bad)
		wantErr(t, "Add of one", r, e, api.ErrForm)
		r, e = Mul(bad)
		wantErr(t, "Mul of one", r, e, api.ErrForm)
	}
}

// P5.2

func TestAddOfSome(t *testing.T) {
	for _, x := range []struct {
		l     []api.Ratio
		right api.Ratio
	}{
		{nil, raw(0, 1)}, {[]api.Ratio{}, raw(0, 1)}, {[]api.Ratio{raw(0, 1)}, raw(0, 1)}, {[]api.Ratio{raw(-3, 2)}, raw(-3, 2)}, {[]api.Ratio{raw(0, 1), raw(0, 1)}, raw(0, 1)},
		{[]api.Ratio{raw(1, 2), raw(1, 2)}, raw(1, 1)}, {[]api.Ratio{raw(1, 2), raw(-1, 2)}, raw(0, 1)}, {[]api.Ratio{raw(-7, 6), raw(7, 6)}, raw(0, 1)}, {[]api.Ratio{raw(1, 6), raw(1, 10)}, raw(4, 15)}, {[]api.Ratio{raw(1, 6), raw(-1, 10)}, raw(1, 15)}, {[]api.Ratio{raw(1, 4), raw(1, 4), raw(-1, 2)}, raw(0, 1)},
		{[]api.Ratio{raw(1, 2), raw(1, 3), raw(1, 4), raw(1, 5), raw(1, 6)}, raw(29, 20)}, {[]api.Ratio{raw(3, 1), raw(-5, 1)}, raw(-2, 1)}, {[]api.Ratio{raw(1, 3), raw(-5, 1)}, raw(-14, 3)},
		{[]api.Ratio{raw(1, half), raw(1, half)}, raw(1, 1<<62)}, {[]api.Ratio{raw(1, top), raw(1, top-1)}, long(false, api.Nat{top - 2, 1}, api.Nat{2, top - 2})}, {[]api.Ratio{raw(math.MinInt, 1), raw(math.MinInt, 1)}, long(true, api.Nat{0, 1}, api.Nat{1})},
		{[]api.Ratio{long(false, full(top, 40), api.Nat{1}), raw(1, 1)}, long(false, append(full(0, 40), 1), api.Nat{1})}, {[]api.Ratio{long(false, api.Nat{1}, full(top, 40)), long(true, api.Nat{1}, full(top, 40))}, raw(0, 1)},
	} {
		r, e := Add(x.l...)
		want(t, "Add", r, e, x.right)
		slices.Reverse(x.l)
		r, e = Add(x.l...)
		want(t, "Add, from the other end", r, e, x.right)
	}
}

func TestMulOfSome(t *testing.T) {
	for _, x := range []struct {
		l     []api.Ratio
		right api.Ratio
	}{
		{nil, raw(1, 1)}, {[]api.Ratio{}, raw(1, 1)}, {[]api.Ratio{raw(0, 1)}, raw(0, 1)}, {[]api.Ratio{raw(-3, 2)}, raw(-3, 2)}, {[]api.Ratio{raw(0, 1), raw(-3, 2)}, raw(0, 1)}, {[]api.Ratio{raw(0, 1), raw(0, 1)}, raw(0, 1)}, {[]api.Ratio{raw(5, 7), raw(0, 1), raw(-7, 5)}, raw(0, 1)},
		{[]api.Ratio{raw(2, 3), raw(3, 2)}, raw(1, 1)}, {[]api.Ratio{raw(-2, 3), raw(3, 2)}, raw(-1, 1)}, {[]api.Ratio{raw(-2, 3), raw(-3, 2)}, raw(1, 1)}, {[]api.Ratio{raw(-2, 3), raw(-3, 2), raw(-1, 5)}, raw(-1, 5)}, {[]api.Ratio{raw(4, 9), raw(15, 8)}, raw(5, 6)}, {[]api.Ratio{raw(5, 1), raw(7, 1)}, raw(35, 1)}, {[]api.Ratio{raw(1, 5), raw(1, 7)}, raw(1, 35)},
		{[]api.Ratio{raw(1, 2), raw(2, 3), raw(3, 4), raw(4, 5), raw(5, 6)}, raw(1, 6)}, {[]api.Ratio{raw(math.MinInt, 1), raw(1, half)}, raw(-1, 1)}, {[]api.Ratio{raw(1, top), raw(1, top)}, long(false, api.Nat{1}, api.Nat{1, top - 1})},
		{[]api.Ratio{long(false, full(top, 40), api.Nat{2}), long(true, api.Nat{2}, full(top, 40))}, raw(-1, 1)}, {[]api.Ratio{long(false, full(top, 40), api.Nat{2}), long(true, api.Nat{14}, full(top, 20))}, long(true, append(append(api.Nat{7}, full(0, 19)...), 7), api.Nat{1})},
	} {
		r, e := Mul(x.l...)
		want(t, "Mul", r, e, x.right)
		slices.Reverse(x.l)
		r, e = Mul(x.l...)
		want(t, "Mul, from the other end", r, e, x.right)
	}
}

func TestSubOfTwo(t *testing.T) {
	for _, x := range []struct{ a, b, right api.Ratio }{
		{raw(0, 1), raw(0, 1), raw(0, 1)}, {raw(1, 2), raw(0, 1), raw(1, 2)}, {raw(0, 1), raw(1, 2), raw(-1, 2)}, {raw(0, 1), raw(-1, 2), raw(1, 2)}, {raw(-3, 7), raw(-3, 7), raw(0, 1)}, {raw(1, 2), raw(1, 3), raw(1, 6)}, {raw(1, 3), raw(1, 2), raw(-1, 6)}, {raw(1, 2), raw(-1, 2), raw(1, 1)}, {raw(-1, 2), raw(1, 6), raw(-2, 3)},
		{raw(5, 1), raw(7, 1), raw(-2, 1)}, {raw(math.MinInt, 1), raw(math.MinInt, 1), raw(0, 1)}, {raw(0, 1), raw(math.MinInt, 1), long(false, api.Nat{half}, api.Nat{1})}, {long(false, api.Nat{0, 1}, api.Nat{1}), raw(1, 1), long(false, api.Nat{top}, api.Nat{1})},
	} {
		r, e := Sub(x.a, x.b)
		want(t, "Sub", r, e, x.right)
	}
}

func TestDivOfTwo(t *testing.T) {
	for _, x := range []struct{ a, b, right api.Ratio }{
		{raw(0, 1), raw(1, 1), raw(0, 1)}, {raw(0, 1), raw(-3, 7), raw(0, 1)}, {raw(-3, 7), raw(-3, 7), raw(1, 1)}, {raw(-3, 7), raw(3, 7), raw(-1, 1)}, {raw(1, 2), raw(1, 3), raw(3, 2)}, {raw(1, 3), raw(1, 2), raw(2, 3)}, {raw(1, 2), raw(-2, 1), raw(-1, 4)}, {raw(-1, 2), raw(-2, 1), raw(1, 4)}, {raw(4, 9), raw(8, 15), raw(5, 6)}, {raw(5, 1), raw(1, 1), raw(5, 1)}, {raw(1, 1), raw(5, 1), raw(1, 5)},
		{raw(math.MinInt, 1), raw(math.MinInt, 1), raw(1, 1)}, {raw(1, 1), raw(math.MinInt, 1), raw(-1, half)}, {long(false, full(top, 40), api.Nat{1}), long(false, full(top, 20), api.Nat{2}), long(false, append(append(api.Nat{2}, full(0, 19)...), 2), api.Nat{1})},
	} {
		r, e := Div(x.a, x.b)
		want(t, "Div", r, e, x.right)
	}
	for _, a := range []api.Ratio{raw(0, 1), raw(1, 1), raw(-3, 2), long(true, full(top, 40), api.Nat{2})} {
		for _, b := range []api.Ratio{raw(0, 1), long(false, api.Nat{}, api.Nat{1})} {
			r, e := Div(a, b)
			wantErr(t, "Div by 0", r, e, api.ErrZero)
		}
	}
}

func TestCmpOrdersFractions(t *testing.T) {
	rising := []api.Ratio{
		long(true, full(top, 40), api.Nat{1}), raw(math.MinInt, 1), raw(-7, 2), raw(-3, 1), raw(-5, 2), raw(-2, 1), raw(-3, 2), raw(-1, 1), raw(-2, 3), raw(-1, 2), raw(-1, 3), raw(-1, top), long(true, api.Nat{1}, full(top, 40)),
		raw(0, 1),
		long(false, api.Nat{1}, full(top, 40)), raw(1, top), raw(1, top-1), raw(1, 3), raw(1, 2), raw(2, 3), raw(math.MaxInt-1, math.MaxInt), raw(math.MaxInt, half), raw(1, 1), raw(3, 2), raw(2, 1), raw(5, 2), raw(3, 1), raw(7, 2), raw(math.MaxInt, 1), long(false, full(top, 40), api.Nat{1}),
	}
	for i, a := range rising {
		wantCmp(t, a, a, 0)
		for _, b := range rising[i+1:] {
			wantCmp(t, a, b, -1)
		}
	}
}

// P5.3

func TestPower(t *testing.T) {
	for _, x := range []struct {
		r     api.Ratio
		n     int
		right api.Ratio
	}{
		{raw(0, 1), 0, raw(1, 1)}, {raw(0, 1), 1, raw(0, 1)}, {raw(0, 1), 2, raw(0, 1)}, {raw(0, 1), 10000, raw(0, 1)},
		{raw(1, 1), 0, raw(1, 1)}, {raw(1, 1), 10000, raw(1, 1)}, {raw(1, 1), -10000, raw(1, 1)}, {raw(-1, 1), 9999, raw(-1, 1)}, {raw(-1, 1), -9999, raw(-1, 1)}, {raw(-1, 1), 10000, raw(1, 1)}, {raw(-1, 1), -10000, raw(1, 1)}, {raw(-1, 1), 0, raw(1, 1)},
		{raw(-3, 2), 0, raw(1, 1)}, {raw(-3, 2), 1, raw(-3, 2)}, {raw(-3, 2), -1, raw(-2, 3)}, {raw(-3, 2), 2, raw(9, 4)}, {raw(-3, 2), -2, raw(4, 9)}, {raw(-3, 2), 3, raw(-27, 8)}, {raw(-3, 2), -3, raw(-8, 27)}, {raw(5, 1), -1, raw(1, 5)}, {raw(1, 5), -3, raw(125, 1)}, {raw(7, 3), 5, raw(16807, 243)},
		{raw(math.MinInt, 1), 2, long(false, api.Nat{0, 1 << 62}, api.Nat{1})}, {raw(1, top), 2, long(false, api.Nat{1}, api.Nat{1, top - 1})}, {raw(-1, top), -2, long(false, api.Nat{1, top - 1}, api.Nat{1})},
		{raw(2, 1), 10000, long(false, append(full(0, 156), 1<<16), api.Nat{1})}, {raw(2, 1), -10000, long(false, api.Nat{1}, append(full(0, 156), 1<<16))}, {raw(-2, 1), -9999, long(true, api.Nat{1}, append(full(0, 156), 1<<15))}, {raw(-1, 2), 9999, long(true, api.Nat{1}, append(full(0, 156), 1<<15))},
	} {
		r, e := Power(x.r, x.n)
		want(t, "Power", r, e, x.right)
	}
}

func TestPowerRefuses(t *testing.T) {
	for _, n := range []int{10001, -10001, 65536, -65536, math.MaxInt, math.MinInt, math.MinInt + 1} {
		// What is out of range is told ahead of a 0 that can't be turned.
		for _, r := range []api.Ratio{raw(0, 1), raw(1, 1), raw(-1, 1), raw(2, 3)} {
			got, e := Power(r, n)
			wantErr(t, "Power out of range", got, e, api.ErrRange)
		}
	}
	for _, n := range []int{-1, -2, -9999, -10000} {
		got, e := Power(raw(0, 1), n)
		wantErr(t, "Power of 0 below 0", got, e, api.ErrZero)
	}
}

// A power may have more bits than numbers are moved by at most.
func TestPowerOfAnyLength(t *testing.T) {
	const bits, n = 1679, 9999
	if n*bits <= api.MaxBits {
		t.Fatal("this is no long power")
	}
	r := long(true, append(full(0, bits/64), 1<<(bits%64)), api.Nat{1})
	right := append(full(0, n*bits/64), 1<<(n*bits%64))
	got, e := Power(r, -n)
	if e != api.OK || !same(got, long(true, api.Nat{1}, right)) {
		t.Errorf("-2^%d to the power -%d: %d and %d digits, %v", bits, n, len(got.Up.N), len(got.Down), e)
	}
}

func TestRound(t *testing.T) {
	for _, x := range []struct {
		up    int
		down  uint64
		right int
	}{
		{0, 1, 0}, {1, 1, 1}, {7, 1, 7}, {1, 2, 0}, {3, 2, 2}, {5, 2, 2}, {7, 2, 4}, {9, 2, 4}, {11, 2, 6}, {1, 3, 0}, {2, 3, 1}, {4, 3, 1}, {5, 3, 2}, {7, 3, 2}, {8, 3, 3}, {1, 4, 0}, {3, 4, 1}, {5, 4, 1}, {7, 4, 2}, {9, 4, 2}, {11, 4, 3},
		{49, 100, 0}, {51, 100, 1}, {149, 100, 1}, {151, 100, 2}, {249, 100, 2}, {251, 100, 3}, {1, top, 0}, {math.MaxInt, top, 0}, {math.MaxInt, half, 1}, {math.MaxInt, 2, 1 << 62}, {math.MaxInt - 2, 2, 1<<62 - 2}, {math.MaxInt, 1, math.MaxInt},
	} {
		r, e := Make(signed.Of(x.up), limbs.Of(x.down))
		if e != api.OK {
			t.Fatal(x, e)
		}
		wantRound(t, r, signed.Of(x.right))
		wantRound(t, long(len(r.Up.N) > 0, r.Up.N, r.Down), signed.Of(-x.right))
	}
}

func TestRoundOfLongFractions(t *testing.T) {
	for _, below := range []bool{false, true} {
		whole := func(digits ...uint64) api.Int { return api.Int{Below: below && len(digits) > 0, N: digits} }
		// 2^64 and a half has an even neighbour below, 2^64 + 3/2 above.
		wantRound(t, long(below, api.Nat{1, 2}, api.Nat{2}), whole(0, 1))
		wantRound(t, long(below, api.Nat{3, 2}, api.Nat{2}), whole(2, 1))
		// The half ahead of 2^64 is rounded up to it, with a carry.
		wantRound(t, long(below, api.Nat{top, 1}, api.Nat{2}), whole(0, 1))
		wantRound(t, long(below, api.Nat{1, 0, 1}, api.Nat{0, 1 << 32}), whole(1<<32))
		wantRound(t, long(below, api.Nat{1}, full(top, 40)), whole())
		wantRound(t, long(below, full(top, 40), append(full(0, 40), 1)), whole(1))
		// just below and just above a half
		wantRound(t, long(below, append(full(top, 39), half-1), append(full(0, 40), 1)), whole())
		wantRound(t, long(below, append(append(api.Nat{1}, full(0, 38)...), half), append(full(0, 40), 1)), whole(1))
		wantRound(t, long(below, full(top, 40), api.Nat{1}), whole(full(top, 40)...))
	}
}
