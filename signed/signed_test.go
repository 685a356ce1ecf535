package signed

import (
	"math"
	"slices"
	"testing"

	"artesian/api"
)

// top is the greatest digit, half the one of which only the highest bit is 1.
const (
	top  = math.MaxUint64
	half = 1 << 63
)

// full tells a list of so many of the same digit.
func full(x uint64, count int) api.Nat {
	return slices.Repeat(api.Nat{x}, count)
}

// up and down tell a number by its digits, above 0 and below.
func up(digits ...uint64) api.Int   { return api.Int{N: digits} }
func down(digits ...uint64) api.Int { return api.Int{Below: true, N: digits} }

// nought is 0.
var nought = api.Int{}

// noughts tells all kinds of Ints that are taken as 0: it itself first.
func noughts() []api.Int {
	return []api.Int{nought, up(), down(), up(0), down(0), up(0, 0, 0), down(0, 0, 0), {Below: true, N: full(0, 40)}}
}

// forms tells a number, and Ints that are none and are taken as it.
func forms(n api.Int) []api.Int {
	if len(n.N) == 0 {
		return noughts()
	}
	return []api.Int{n, {Below: n.Below, N: append(slices.Clone(n.N), 0)}, {Below: n.Below, N: append(slices.Clone(n.N), 0, 0, 0)}}
}

// same tells whether two Ints are the same, field by field.
func same(a, b api.Int) bool {
	return a.Below == b.Below && slices.Equal(a.N, b.N)
}

// wantInt fails if a call's answer isn't just that Int.
func wantInt(t *testing.T, call string, got, want api.Int) {
	t.Helper()
	if !same(got, want) {
		t.Errorf("%s: got %v, want %v", call, got, want)
	}
}

// wantOne fails if a number isn't told as that int, or as none.
func wantOne(t *testing.T, n api.Int, want int, is bool) {
	t.Helper()
	for _, x := range forms(n) {
		if got, ok := One(x); got != want || ok != is {
			t.Errorf("One(%v): got %d, %v, want %d, %v", x, got, ok, want, is)
		}
	}
}

// wantBoth fails if a call of two numbers doesn't answer just that Int, whatever forms they have.
func wantBoth(t *testing.T, name string, call func(a, b api.Int) api.Int, a, b, want api.Int) {
	t.Helper()
	for _, x := range forms(a) {
		for _, y := range forms(b) {
			if got := call(x, y); !same(got, want) {
				t.Errorf("%s(%v, %v): got %v, want %v", name, x, y, got, want)
			}
		}
	}
}

// wantCmp fails if two numbers aren't so in order, from either side.
func wantCmp(t *testing.T, a, b api.Int, want int) {
	t.Helper()
	for _, x := range forms(a) {
		for _, y := range forms(b) {
			if Cmp(x, y) != want || Cmp(y, x) != -want {
				t.Errorf("Cmp(%v, %v): got %d and back %d, want %d", x, y, Cmp(x, y), Cmp(y, x), want)
			}
		}
	}
}

// The chapter's table of examples

func TestExamples(t *testing.T) {
	wantInt(t, "Add(5, -7)", Add(up(5), down(7)), down(2))
	wantInt(t, "Sub(-5, -7)", Sub(down(5), down(7)), up(2))
	wantInt(t, "Mul(-3, 4)", Mul(down(3), up(4)), down(12))
	wantInt(t, "Neg(0)", Neg(nought), nought)
	if got := Cmp(down(2), down(3)); got != 1 {
		t.Error("Cmp(-2, -3)", got)
	}
	least := Of(math.MinInt)
	wantInt(t, "Of(-2^63)", least, down(half))
	if x, is := One(least); x != math.MinInt || !is {
		t.Error("One(-2^63)", x, is)
	}
	if x, is := One(up(half)); x != 0 || is {
		t.Error("One(2^63)", x, is)
	}
	if got := Sign(down(9)); got != -1 {
		t.Error("Sign(-9)", got)
	}
	if e := Check(down()); e != api.ErrForm {
		t.Error("Check(below, 0 digits)", e)
	}
	if e := Check(up(0)); e != api.ErrForm {
		t.Error("Check(above, the digit 0)", e)
	}
	wantInt(t, "Make(true, the digit 0)", Make(true, api.Nat{0}), nought)
}

// P4.1

func TestCheckTellsNone(t *testing.T) {
	for _, n := range []api.Int{nought, up(), up(1), down(1), up(half), down(half), up(top), down(top), up(0, 1), down(0, 1), {N: full(top, 50)}, {Below: true, N: full(top, 50)}} {
		if e := Check(n); e != api.OK {
			t.Errorf("Check(%v): %v", n, e)
		}
	}
	for _, n := range []api.Int{{Below: true}, down(), up(0), down(0), up(0, 0), down(0, 0), up(1, 0), down(1, 0), up(0, 1, 0), down(top, top, 0), {N: full(0, 50)}, {Below: true, N: full(0, 50)}} {
		if e := Check(n); e != api.ErrForm {
			t.Errorf("Check(%v): %v", n, e)
		}
	}
}

func TestMakeTakesSideAndDistance(t *testing.T) {
	for _, x := range []struct{ n, want api.Nat }{
		{api.Nat{1}, api.Nat{1}}, {api.Nat{top}, api.Nat{top}}, {api.Nat{half}, api.Nat{half}}, {api.Nat{1, 0, 0}, api.Nat{1}}, {api.Nat{0, 1}, api.Nat{0, 1}}, {api.Nat{0, 1, 0}, api.Nat{0, 1}},
		{full(top, 40), full(top, 40)}, {append(full(top, 40), 0, 0), full(top, 40)},
	} {
		wantInt(t, "Make(false, ..)", Make(false, x.n), api.Int{N: x.want})
		wantInt(t, "Make(true, ..)", Make(true, x.n), api.Int{Below: true, N: x.want})
	}
	for _, n := range []api.Nat{nil, {}, {0}, {0, 0, 0}, full(0, 50)} {
		wantInt(t, "Make(false, 0)", Make(false, n), nought)
		wantInt(t, "Make(true, 0)", Make(true, n), nought)
	}
}

func TestOfAndOneTellInts(t *testing.T) {
	for _, x := range []struct {
		x int
		n api.Int
	}{
		{0, nought}, {1, up(1)}, {-1, down(1)}, {2, up(2)}, {-2, down(2)}, {1 << 32, up(1 << 32)}, {-1 << 32, down(1 << 32)},
		{math.MaxInt - 1, up(half - 2)}, {math.MaxInt, up(half - 1)}, {-math.MaxInt, down(half - 1)}, {math.MinInt, down(half)},
	} {
		wantInt(t, "Of", Of(x.x), x.n)
		wantOne(t, x.n, x.x, true)
	}
}

func TestOneRefusesWhatIsNoInt(t *testing.T) {
	for _, n := range []api.Int{
		up(half), down(half + 1), up(half + 1), up(top), down(top), up(0, 1), down(0, 1), up(5, 1), down(5, 1), up(half, 1), down(half, 1), down(half, 0, 1), {N: full(top, 40)}, {Below: true, N: full(top, 40)},
	} {
		wantOne(t, n, 0, false)
	}
}

func TestSignTellsTheSide(t *testing.T) {
	for _, n := range noughts() {
		if got := Sign(n); got != 0 {
			t.Errorf("Sign(%v): %d", n, got)
		}
	}
	for _, digits := range []api.Nat{{1}, {9}, {half}, {top}, {0, 1}, {5, 7, 9}, {1, 0}, {0, 1, 0, 0}, full(top, 40)} {
		if got := Sign(api.Int{N: digits}); got != 1 {
			t.Errorf("Sign of %v: %d", digits, got)
		}
		if got := Sign(api.Int{Below: true, N: digits}); got != -1 {
			t.Errorf("Sign of %v below: %d", digits, got)
		}
	}
}

// P4.2

func TestNegTellsTheOtherSide(t *testing.T) {
	for _, n := range noughts() {
		wantInt(t, "Neg(0)", Neg(n), nought)
	}
	for _, digits := range []api.Nat{{1}, {half - 1}, {half}, {half + 1}, {top}, {0, 1}, {5, 7, 9}, full(top, 40)} {
		above, below := api.Int{N: digits}, api.Int{Below: true, N: digits}
		for _, n := range forms(above) {
			wantInt(t, "Neg", Neg(n), below)
		}
		for _, n := range forms(below) {
			wantInt(t, "Neg", Neg(n), above)
		}
	}
}

func TestSums(t *testing.T) {
	for _, x := range []struct{ a, b, want api.Int }{
		{nought, nought, nought}, {nought, up(5), up(5)}, {nought, down(5), down(5)}, {nought, down(0, 1), down(0, 1)},
		{up(5), up(7), up(12)}, {down(5), down(7), down(12)}, {up(5), down(7), down(2)}, {down(5), up(7), up(2)},
		{up(5), down(5), nought}, {up(top), down(top), nought}, {up(3, 9), down(3, 9), nought}, {api.Int{N: full(top, 40)}, api.Int{Below: true, N: full(top, 40)}, nought},
		{up(top), up(1), up(0, 1)}, {down(top), down(1), down(0, 1)}, {up(0, 1), down(1), up(top)}, {down(0, 1), up(1), down(top)},
		{up(half - 1), up(1), up(half)}, {down(half), down(1), down(half + 1)}, {down(half), up(half - 1), down(1)}, {down(half), up(half), nought}, {down(half), down(half), down(0, 1)},
		{up(0, 0, 1), down(0, 1), up(0, top)}, {up(4, 7), down(5, 7), down(1)}, {down(4, 7), up(5, 7), up(1)}, {up(5, 8), down(6, 7), up(top)},
	} {
		wantBoth(t, "Add", Add, x.a, x.b, x.want)
		wantBoth(t, "Add", Add, x.b, x.a, x.want)
	}
}

func TestDifferences(t *testing.T) {
	for _, x := range []struct{ a, b, want api.Int }{
		{nought, nought, nought}, {nought, up(5), down(5)}, {nought, down(5), up(5)}, {up(5), nought, up(5)}, {down(5), nought, down(5)},
		{up(5), up(7), down(2)}, {up(7), up(5), up(2)}, {down(5), down(7), up(2)}, {down(7), down(5), down(2)}, {up(5), down(7), up(12)}, {down(5), up(7), down(12)},
		{up(5), up(5), nought}, {down(5), down(5), nought}, {up(3, 9), up(3, 9), nought}, {down(3, 9), down(3, 9), nought}, {api.Int{Below: true, N: full(top, 40)}, api.Int{Below: true, N: full(top, 40)}, nought},
		{nought, down(half), up(half)}, {down(half), up(1), down(half + 1)}, {up(half - 1), down(1), up(half)}, {down(half), up(half), down(0, 1)}, {down(half), down(half), nought},
		{up(0, 1), up(1), up(top)}, {up(1), up(0, 1), down(top)}, {down(top), up(1), down(0, 1)}, {up(top), down(top), up(top-1, 1)},
	} {
		wantBoth(t, "Sub", Sub, x.a, x.b, x.want)
	}
}

func TestProducts(t *testing.T) {
	for _, x := range []struct {
		a, b, want api.Nat
	}{
		{api.Nat{1}, api.Nat{1}, api.Nat{1}}, {api.Nat{1}, api.Nat{5, 7}, api.Nat{5, 7}}, {api.Nat{3}, api.Nat{4}, api.Nat{12}}, {api.Nat{top}, api.Nat{top}, api.Nat{1, top - 1}},
		{api.Nat{half}, api.Nat{1}, api.Nat{half}}, {api.Nat{half}, api.Nat{2}, api.Nat{0, 1}}, {api.Nat{1, 2, 3}, api.Nat{4, 5}, api.Nat{4, 13, 22, 15}},
		// (2^(64 m) - 1) times (2^(64 n) - 1), of m = n = 40
		{full(top, 40), full(top, 40), append(append(append(api.Nat{1}, full(0, 39)...), top-1), full(top, 39)...)},
	} {
		above := func(n api.Nat) api.Int { return api.Int{N: n} }
		below := func(n api.Nat) api.Int { return api.Int{Below: true, N: n} }
		wantBoth(t, "Mul", Mul, above(x.a), above(x.b), above(x.want))
		wantBoth(t, "Mul", Mul, below(x.a), below(x.b), above(x.want))
		wantBoth(t, "Mul", Mul, below(x.a), above(x.b), below(x.want))
		wantBoth(t, "Mul", Mul, above(x.a), below(x.b), below(x.want))
	}
	for _, n := range []api.Int{nought, up(1), down(1), up(top), down(half), down(0, 1), {Below: true, N: full(top, 40)}} {
		wantBoth(t, "Mul", Mul, nought, n, nought)
		wantBoth(t, "Mul", Mul, n, nought, nought)
	}
}

func TestCmpOrdersNumbers(t *testing.T) {
	rising := []api.Int{
		{Below: true, N: full(top, 40)}, down(0, 0, 1), down(top, top), down(1, 2), down(2, 1), down(1, 1), down(0, 1), down(top), down(half + 1), down(half), down(half - 1), down(3), down(2), down(1),
		nought,
		up(1), up(2), up(3), up(half - 1), up(half), up(half + 1), up(top), up(0, 1), up(1, 1), up(2, 1), up(1, 2), up(top, top), up(0, 0, 1), {N: full(top, 40)},
	}
	for i, a := range rising {
		wantCmp(t, a, a, 0)
		for _, b := range rising[i+1:] {
			wantCmp(t, a, b, -1)
		}
	}
}
