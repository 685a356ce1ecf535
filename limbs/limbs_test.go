package limbs

import (
	"math"
	"slices"
	"testing"

	"artesian/api"
)

// top is the greatest digit.
const top = math.MaxUint64

// full tells a list of so many of the same digit.
func full(x uint64, count int) api.Nat {
	return slices.Repeat(api.Nat{x}, count)
}

// power tells 2^bits, digit by digit, without the calls that are tried.
func power(bits int) api.Nat {
	n := make(api.Nat, bits/64+1)
	n[bits/64] = 1 << (bits % 64)
	return n
}

// wantNat fails if a call's answer isn't the number, or is none.
func wantNat(t *testing.T, call string, got, want api.Nat) {
	t.Helper()
	if !slices.Equal(got, want) {
		t.Errorf("%s: got %v, want %v", call, got, want)
	}
}

// wantRefused fails if a call didn't answer the error and nothing beside it.
func wantRefused(t *testing.T, call string, got api.Nat, err, want api.Errno) {
	t.Helper()
	if err != want || len(got) != 0 {
		t.Errorf("%s: got %v, %v, want no digit, %v", call, got, err, want)
	}
}

// P1.1

func TestCheckTellsNone(t *testing.T) {
	for _, n := range []api.Nat{nil, {}, {1}, {0, 1}, {top, top}, {0, 0, 0, 1 << 63}} {
		if e := Check(n); e != api.OK {
			t.Errorf("Check(%v): %v", n, e)
		}
	}
	for _, n := range []api.Nat{{0}, {1, 0}, {0, 0}, {top, top, 0}, {0, 1, 0, 0}} {
		if e := Check(n); e != api.ErrForm {
			t.Errorf("Check(%v): %v", n, e)
		}
	}
}

func TestTrimTakesHighestNoughts(t *testing.T) {
	for _, x := range []struct{ n, want api.Nat }{
		{nil, nil}, {api.Nat{}, nil}, {api.Nat{0}, nil}, {full(0, 9), nil},
		{api.Nat{1}, api.Nat{1}}, {api.Nat{1, 0, 0}, api.Nat{1}},
		{api.Nat{0, 1, 0}, api.Nat{0, 1}}, {api.Nat{0, 0, top}, api.Nat{0, 0, top}},
	} {
		wantNat(t, "Trim", Trim(x.n), x.want)
	}
}

func TestOfAndOneTellSmallNumbers(t *testing.T) {
	for _, x := range []uint64{1, 2, 7, 1 << 32, 1 << 63, top} {
		wantNat(t, "Of", Of(x), api.Nat{x})
		for _, n := range []api.Nat{{x}, {x, 0}, {x, 0, 0, 0}} {
			if y, is := One(n); y != x || !is {
				t.Errorf("One(%v): %d, %v", n, y, is)
			}
		}
	}
	if n := Of(0); len(n) != 0 {
		t.Errorf("Of(0): %v", n)
	}
	for _, n := range []api.Nat{nil, {}, {0}, {0, 0, 0}} {
		if x, is := One(n); x != 0 || !is {
			t.Errorf("One(%v): %d, %v", n, x, is)
		}
	}
	for _, n := range []api.Nat{{0, 1}, {7, 1}, {7, 1, 0}, {7, 0, 1}, {top, top}} {
		if x, is := One(n); x != 0 || is {
			t.Errorf("One(%v): %d, %v", n, x, is)
		}
	}
}

// P1.2

func TestCmpOrdersNumbers(t *testing.T) {
	rising := []api.Nat{
		nil, {1}, {2}, {1 << 63}, {top}, {0, 1}, {1, 1}, {top, 1}, {0, 2}, {top, top},
		{0, 0, 1}, {top, 0, 1}, {0, 1, 1}, {top, top, top}, {0, 0, 0, 1},
	}
	for i, a := range rising {
		for j, b := range rising {
			want := 0
			if i < j {
				want = -1
			} else if i > j {
				want = 1
			}
			padded := append(slices.Clone(b), 0, 0)
			for _, got := range []int{Cmp(a, b), Cmp(a, padded), -Cmp(padded, a)} {
				if got != want {
					t.Errorf("Cmp(%v, %v): %d, want %d", a, b, got, want)
				}
			}
		}
	}
}

func TestAddCarriesThroughAllDigits(t *testing.T) {
	for _, x := range []struct{ a, b, want api.Nat }{
		{nil, nil, nil}, {api.Nat{0, 0}, api.Nat{0}, nil}, {nil, api.Nat{5}, api.Nat{5}}, {api.Nat{2}, api.Nat{3}, api.Nat{5}},
		{api.Nat{top}, api.Nat{1}, api.Nat{0, 1}}, {api.Nat{top}, api.Nat{top}, api.Nat{top - 1, 1}},
		{api.Nat{1, 2, 3}, api.Nat{4}, api.Nat{5, 2, 3}}, {api.Nat{top, 2, 3}, api.Nat{1}, api.Nat{0, 3, 3}},
		{api.Nat{1, 0}, api.Nat{2, 0, 0}, api.Nat{3}}, {api.Nat{top, 0, 0}, api.Nat{1, 0}, api.Nat{0, 1}},
		{full(top, 50), api.Nat{1}, power(50 * 64)}, {full(top, 3), full(top, 3), api.Nat{top - 1, top, top, 1}},
		{full(top, 50), append(api.Nat{1}, full(0, 60)...), power(50 * 64)},
	} {
		wantNat(t, "Add", Add(x.a, x.b), x.want)
		wantNat(t, "Add", Add(x.b, x.a), x.want)
	}
}

func TestSubBorrowsThroughAllDigits(t *testing.T) {
	for _, x := range []struct{ a, b, want api.Nat }{
		{nil, nil, nil}, {api.Nat{0}, api.Nat{0, 0}, nil}, {api.Nat{5}, nil, api.Nat{5}}, {api.Nat{5}, api.Nat{3}, api.Nat{2}},
		{api.Nat{0, 1}, api.Nat{1}, api.Nat{top}}, {api.Nat{5, 1}, api.Nat{4, 1}, api.Nat{1}}, {full(top, 4), full(top, 4), nil},
		{api.Nat{1, 2, 3}, api.Nat{2}, api.Nat{top, 1, 3}}, {api.Nat{7, 0}, api.Nat{5, 0, 0, 0}, api.Nat{2}},
		{power(50 * 64), api.Nat{1}, full(top, 50)}, {power(50 * 64), full(top, 50), api.Nat{1}},
	} {
		got, e := Sub(x.a, x.b)
		if e != api.OK {
			t.Errorf("Sub(%v, %v): %v", x.a, x.b, e)
		}
		wantNat(t, "Sub", got, x.want)
	}
}

func TestSubRefusesGreater(t *testing.T) {
	for _, x := range []struct{ a, b api.Nat }{
		{nil, api.Nat{1}}, {api.Nat{0, 0}, api.Nat{1}}, {api.Nat{4}, api.Nat{5}}, {api.Nat{top}, api.Nat{0, 1}},
		{api.Nat{top, 0, 0}, api.Nat{0, 1}}, {api.Nat{top, 1}, api.Nat{0, 2}}, {api.Nat{4, 7}, api.Nat{5, 7}}, {full(top, 50), power(50 * 64)},
	} {
		got, e := Sub(x.a, x.b)
		wantRefused(t, "Sub", got, e, api.ErrRange)
	}
}

func TestLenTellsBits(t *testing.T) {
	for _, n := range []api.Nat{nil, {}, {0}, {0, 0}} {
		if got := Len(n); got != 0 {
			t.Errorf("Len(%v): %d", n, got)
		}
	}
	for bits := range 300 {
		n := power(bits)
		if got := Len(n); got != bits+1 {
			t.Errorf("Len(2^%d): %d", bits, got)
		}
		if got := Len(append(n, 0, 0)); got != bits+1 {
			t.Errorf("Len(2^%d and noughts): %d", bits, got)
		}
		less, _ := Sub(n, api.Nat{1})
		if got := Len(less); got != bits {
			t.Errorf("Len(2^%d - 1): %d", bits, got)
		}
	}
}

// P1.3

func TestUpMultiplies(t *testing.T) {
	for _, x := range []struct {
		n    api.Nat
		bits int
		want api.Nat
	}{
		{nil, 0, nil}, {api.Nat{0, 0}, 0, nil}, {nil, api.MaxBits, nil}, {api.Nat{0}, 65, nil},
		{api.Nat{5}, 0, api.Nat{5}}, {api.Nat{5, 0}, 0, api.Nat{5}}, {api.Nat{5, 6}, 64, api.Nat{0, 5, 6}}, {api.Nat{5, 0}, 128, api.Nat{0, 0, 5}},
		{api.Nat{3}, 63, api.Nat{1 << 63, 1}}, {api.Nat{1}, 63, api.Nat{1 << 63}}, {api.Nat{top, top}, 1, api.Nat{top - 1, top, 1}},
		{api.Nat{1}, api.MaxBits, power(api.MaxBits)}, {api.Nat{1, 1}, api.MaxBits - 64, append(power(api.MaxBits-64), 1)},
		{api.Nat{1}, api.MaxBits - 1, power(api.MaxBits - 1)},
	} {
		got, e := Up(x.n, x.bits)
		if e != api.OK || !slices.Equal(got, x.want) {
			t.Errorf("Up by %d: %d digits, %v", x.bits, len(got), e)
		}
	}
}

func TestDownDivides(t *testing.T) {
	for _, x := range []struct {
		n    api.Nat
		bits int
		want api.Nat
	}{
		{nil, 0, nil}, {api.Nat{0, 0}, 0, nil}, {nil, api.MaxBits, nil},
		{api.Nat{5}, 0, api.Nat{5}}, {api.Nat{5, 6, 0}, 0, api.Nat{5, 6}}, {api.Nat{5, 6}, 64, api.Nat{6}}, {api.Nat{5, 6}, 128, nil}, {api.Nat{5, 6}, 129, nil},
		{api.Nat{5, 6, 0, 0}, 64, api.Nat{6}}, {api.Nat{7}, 2, api.Nat{1}}, {api.Nat{7}, 3, nil}, {api.Nat{top}, 63, api.Nat{1}}, {api.Nat{top}, 64, nil},
		{api.Nat{0, 1}, 1, api.Nat{1 << 63}}, {api.Nat{top, 1}, 64, api.Nat{1}}, {api.Nat{top, top}, 1, api.Nat{top, top >> 1}},
		{power(api.MaxBits), api.MaxBits, api.Nat{1}}, {power(api.MaxBits - 1), api.MaxBits, nil}, {power(api.MaxBits + 70), api.MaxBits, api.Nat{0, 1 << 6}},
		{full(top, 5), api.MaxBits, nil},
	} {
		got, e := Down(x.n, x.bits)
		if e != api.OK || !slices.Equal(got, x.want) {
			t.Errorf("Down by %d: %d digits, %v", x.bits, len(got), e)
		}
	}
}

func TestMovesRefuseBits(t *testing.T) {
	for _, bits := range []int{-1, -64, math.MinInt, api.MaxBits + 1, api.MaxBits + 64, math.MaxInt} {
		for _, n := range []api.Nat{nil, {0}, {1}, {top, top}} {
			got, e := Up(n, bits)
			wantRefused(t, "Up", got, e, api.ErrRange)
			got, e = Down(n, bits)
			wantRefused(t, "Down", got, e, api.ErrRange)
		}
	}
}

// The chapter's table of examples

func TestExamplesOfSums(t *testing.T) {
	wantNat(t, "Add([M], [1])", Add(api.Nat{top}, api.Nat{1}), api.Nat{0, 1})
	wantNat(t, "Add([], [])", Add(nil, nil), nil)
	n, e := Sub(api.Nat{0, 1}, api.Nat{1})
	if wantNat(t, "Sub([0 1], [1])", n, api.Nat{top}); e != api.OK {
		t.Error(e)
	}
	n, e = Sub(api.Nat{1}, api.Nat{2})
	wantRefused(t, "Sub([1], [2])", n, e, api.ErrRange)
	n, e = Sub(api.Nat{5}, api.Nat{5})
	if wantNat(t, "Sub([5], [5])", n, nil); e != api.OK {
		t.Error(e)
	}
}

func TestExamplesOfMoves(t *testing.T) {
	n, e := Up(api.Nat{1}, 65)
	if wantNat(t, "Up([1], 65)", n, api.Nat{0, 2}); e != api.OK {
		t.Error(e)
	}
	n, e = Up(api.Nat{top}, 4)
	if wantNat(t, "Up([M], 4)", n, api.Nat{top - 15, 15}); e != api.OK {
		t.Error(e)
	}
	n, e = Down(api.Nat{0, 1}, 1)
	if wantNat(t, "Down([0 1], 1)", n, api.Nat{1 << 63}); e != api.OK {
		t.Error(e)
	}
	n, e = Down(api.Nat{7}, 3)
	if wantNat(t, "Down([7], 3)", n, nil); e != api.OK {
		t.Error(e)
	}
	n, e = Up(api.Nat{1}, -1)
	wantRefused(t, "Up([1], -1)", n, e, api.ErrRange)
}

func TestExamplesOfForms(t *testing.T) {
	if Len(nil) != 0 || Len(api.Nat{1}) != 1 || Len(api.Nat{0, 1}) != 65 {
		t.Error("Len")
	}
	if Check(api.Nat{1, 0}) != api.ErrForm {
		t.Error("Check")
	}
	wantNat(t, "Trim([1 0 0])", Trim(api.Nat{1, 0, 0}), api.Nat{1})
	if x, is := One(api.Nat{7}); x != 7 || !is {
		t.Error("One([7])", x, is)
	}
	if x, is := One(api.Nat{0, 1}); x != 0 || is {
		t.Error("One([0 1])", x, is)
	}
}
