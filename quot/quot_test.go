package quot

import (
	"math"
	"slices"
	"testing"

	"artesian/api"
)

// top is the greatest digit, half the one of which only the highest bit is 1.
const (
	top  = math.MaxUint64
	half = 1 << 63
)

// full tells a list of so many of the same digit.
func full(x uint64, count int) api.Nat {
	return slices.Repeat(api.Nat{x}, count)
}

// padded tells a number with noughts at its high end.
func padded(n api.Nat) api.Nat {
	return append(slices.Clone(n), 0, 0)
}

// wantDiv fails if a number isn't divided so, whether or not there are noughts at the high ends.
func wantDiv(t *testing.T, a, b, quotient, left api.Nat) {
	t.Helper()
	for _, x := range []api.Nat{a, padded(a)} {
		for _, y := range []api.Nat{b, padded(b)} {
			q, l, e := Div(x, y)
			if e != api.OK || !slices.Equal(q, quotient) || !slices.Equal(l, left) {
				t.Errorf("Div(%v, %v): got %v, %v, %v, want %v, %v", x, y, q, l, e, quotient, left)
			}
		}
	}
}

// wantPart fails if a number isn't divided so by a digit, by either call.
func wantPart(t *testing.T, a api.Nat, x uint64, quotient api.Nat, left uint64) {
	t.Helper()
	for _, n := range []api.Nat{a, padded(a)} {
		q, l, e := Part(n, x)
		if e != api.OK || !slices.Equal(q, quotient) || l != left {
			t.Errorf("Part(%v, %d): got %v, %d, %v, want %v, %d", n, x, q, l, e, quotient, left)
		}
	}
	leftNat := api.Nat{left}
	if left == 0 {
		leftNat = nil
	}
	wantDiv(t, a, api.Nat{x}, quotient, leftNat)
}

// wantGcd fails if two numbers' greatest common divisor isn't that, in whatever order they are.
func wantGcd(t *testing.T, a, b, want api.Nat) {
	t.Helper()
	for _, x := range []api.Nat{a, padded(a)} {
		for _, y := range []api.Nat{b, padded(b)} {
			if got := Gcd(x, y); !slices.Equal(got, want) {
				t.Errorf("Gcd(%v, %v): got %v, want %v", x, y, got, want)
			}
			if got := Gcd(y, x); !slices.Equal(got, want) {
				t.Errorf("Gcd(%v, %v): got %v, want %v", y, x, got, want)
			}
		}
	}
}

// wantDivides fails if it isn't told so whether a divides b.
func wantDivides(t *testing.T, a, b api.Nat, want bool) {
	t.Helper()
	for _, x := range []api.Nat{a, padded(a)} {
		for _, y := range []api.Nat{b, padded(b)} {
			if Divides(x, y) != want {
				t.Errorf("Divides(%v, %v): want %v", x, y, want)
			}
		}
	}
}

// The chapter's table of examples

func TestExamplesOfQuotients(t *testing.T) {
	wantDiv(t, api.Nat{7}, api.Nat{2}, api.Nat{3}, api.Nat{1})
	wantDiv(t, api.Nat{0, 1}, api.Nat{3}, api.Nat{6148914691236517205}, api.Nat{1})
	wantDiv(t, api.Nat{5}, api.Nat{0, 1}, nil, api.Nat{5})
	wantDiv(t, api.Nat{0, 0, 1}, api.Nat{top, 1}, api.Nat{half}, api.Nat{half})
	wantPart(t, api.Nat{0, 1}, 2, api.Nat{half}, 0)
	if _, _, e := Div(api.Nat{1}, nil); e != api.ErrZero {
		t.Error("Div([1], [])", e)
	}
	if _, _, e := Part(api.Nat{9}, 0); e != api.ErrZero {
		t.Error("Part([9], 0)", e)
	}
}

func TestExamplesOfDivisors(t *testing.T) {
	wantGcd(t, api.Nat{12}, api.Nat{18}, api.Nat{6})
	wantGcd(t, nil, api.Nat{4}, api.Nat{4})
	wantGcd(t, nil, nil, nil)
	wantDivides(t, api.Nat{3}, api.Nat{9}, true)
	wantDivides(t, nil, api.Nat{1}, false)
	wantDivides(t, nil, nil, true)
}

// P3.1

func TestDivByADigit(t *testing.T) {
	for _, x := range []struct {
		a    api.Nat
		x    uint64
		q    api.Nat
		left uint64
	}{
		{nil, 1, nil, 0}, {nil, top, nil, 0}, {full(0, 3), 7, nil, 0},
		{api.Nat{6}, 1, api.Nat{6}, 0}, {api.Nat{6}, 6, api.Nat{1}, 0}, {api.Nat{6}, 7, nil, 6}, {api.Nat{6}, 4, api.Nat{1}, 2}, {api.Nat{top - 1}, top, nil, top - 1},
		{full(top, 3), 1, full(top, 3), 0}, {full(top, 3), top, full(1, 3), 0}, {full(top, 3), 2, api.Nat{top, top, half - 1}, 1},
		{api.Nat{0, 1}, top, api.Nat{1}, 1}, {api.Nat{top - 1, top - 1}, top, api.Nat{top}, top - 2},
		{api.Nat{0, 0, 5}, 5, api.Nat{0, 0, 1}, 0}, {api.Nat{4, 0, 5}, 5, api.Nat{0, 0, 1}, 4}, {api.Nat{0, 0, 4}, half, api.Nat{0, 8}, 0},
	} {
		wantPart(t, x.a, x.x, x.q, x.left)
	}
}

func TestDivByALongerOrGreaterNumber(t *testing.T) {
	for _, x := range []struct{ a, b api.Nat }{
		{nil, api.Nat{0, 1}}, {nil, full(top, 9)}, {api.Nat{1}, api.Nat{2}}, {api.Nat{top}, api.Nat{0, 1}}, {full(top, 8), append(full(0, 8), 1)},
		{api.Nat{4, 7}, api.Nat{5, 7}}, {api.Nat{top, 6}, api.Nat{0, 7}}, {api.Nat{0, top, top}, full(top, 3)},
	} {
		wantDiv(t, x.a, x.b, nil, x.a)
	}
}

func TestDivByManyDigits(t *testing.T) {
	for _, x := range []struct{ a, b, q, left api.Nat }{
		{api.Nat{5, 7}, api.Nat{5, 7}, api.Nat{1}, nil}, {api.Nat{6, 7}, api.Nat{5, 7}, api.Nat{1}, api.Nat{1}}, {api.Nat{4, 8}, api.Nat{5, 7}, api.Nat{1}, api.Nat{top}},
		{api.Nat{0, 0, 1}, api.Nat{0, 1}, api.Nat{0, 1}, nil}, {api.Nat{3, 9, 0, 1}, api.Nat{0, 0, 0, 1}, api.Nat{1}, api.Nat{3, 9}},
		{full(top, 4), full(top, 2), api.Nat{1, 0, 1}, nil}, {full(top, 3), full(top, 2), api.Nat{0, 1}, api.Nat{top}}, {api.Nat{1, 2, 3, 4, 5, 6}, api.Nat{1, 2, 3}, api.Nat{14347467612885206813, 6148914691236517205, 0, 2}, api.Nat{4099276460824344804, 2049638230412172402}},
		{api.Nat{4, 13, 22, 15}, api.Nat{4, 5}, api.Nat{1, 2, 3}, nil}, {api.Nat{4, 13, 22, 15}, api.Nat{1, 2, 3}, api.Nat{4, 5}, nil}, {api.Nat{5, 14, 22, 15}, api.Nat{1, 2, 3}, api.Nat{4, 5}, api.Nat{1, 1}},
		{api.Nat{1, 0, 0, 0, 1}, api.Nat{0, half}, api.Nat{0, 0, 2}, api.Nat{1}}, {api.Nat{0, 0, 0, half}, api.Nat{0, 0, half}, api.Nat{0, 1}, nil},
	} {
		wantDiv(t, x.a, x.b, x.q, x.left)
	}
}

func TestDivByNoughtIsRefused(t *testing.T) {
	for _, a := range []api.Nat{nil, {}, {0}, {5}, {5, 0}, {0, 1}, full(top, 9), full(0, 9)} {
		for _, b := range []api.Nat{nil, {}, {0}, {0, 0}, full(0, 9)} {
			q, left, e := Div(a, b)
			if e != api.ErrZero || len(q) != 0 || len(left) != 0 {
				t.Errorf("Div(%v, %v): %v, %v, %v", a, b, q, left, e)
			}
		}
		q, left, e := Part(a, 0)
		if e != api.ErrZero || len(q) != 0 || left != 0 {
			t.Errorf("Part(%v, 0): %v, %d, %v", a, q, left, e)
		}
	}
}

// P3.2

func TestGcdOfNought(t *testing.T) {
	for _, b := range []api.Nat{nil, {1}, {4}, {top}, {0, 1}, {5, 7}, full(top, 9)} {
		wantGcd(t, nil, b, b)
		wantGcd(t, full(0, 5), b, b)
	}
}

func TestGcd(t *testing.T) {
	for _, x := range []struct{ a, b, want api.Nat }{
		{api.Nat{1}, api.Nat{1}, api.Nat{1}}, {api.Nat{1}, full(top, 5), api.Nat{1}}, {api.Nat{7}, api.Nat{7}, api.Nat{7}}, {api.Nat{9}, api.Nat{4}, api.Nat{1}}, {api.Nat{9}, api.Nat{27}, api.Nat{9}},
		{api.Nat{top}, api.Nat{top - 1}, api.Nat{1}}, {api.Nat{half}, api.Nat{0, 1}, api.Nat{half}}, {api.Nat{0, 1}, api.Nat{3}, api.Nat{1}}, {api.Nat{top}, api.Nat{top, top}, api.Nat{top}},
		{api.Nat{0, 6}, api.Nat{0, 4}, api.Nat{0, 2}}, {api.Nat{0, 6}, api.Nat{4}, api.Nat{4}}, {api.Nat{5, 7}, api.Nat{5, 7}, api.Nat{5, 7}},
		{full(top, 6), full(top, 4), full(top, 2)}, {full(top, 5), full(top, 3), full(top, 1)}, {full(1, 6), full(1, 4), full(1, 2)},
		{api.Nat{4, 13, 22, 15}, api.Nat{0, 1, 2, 3}, api.Nat{4, 8, 12}}, {api.Nat{4, 13, 22, 15}, api.Nat{1, 3, 5, 3}, api.Nat{1, 2, 3}},
	} {
		wantGcd(t, x.a, x.b, x.want)
	}
}

func TestDivides(t *testing.T) {
	for _, x := range []struct {
		a, b api.Nat
		want bool
	}{
		{nil, nil, true}, {nil, api.Nat{1}, false}, {nil, api.Nat{0, 1}, false}, {nil, full(top, 5), false},
		{api.Nat{1}, nil, true}, {api.Nat{top}, nil, true}, {api.Nat{0, 1}, nil, true}, {api.Nat{1}, full(top, 5), true},
		{api.Nat{3}, api.Nat{9}, true}, {api.Nat{9}, api.Nat{3}, false}, {api.Nat{2}, api.Nat{9}, false}, {api.Nat{2}, api.Nat{9, 4}, false}, {api.Nat{2}, api.Nat{8, 9}, true}, {api.Nat{7}, api.Nat{7}, true},
		{api.Nat{0, 1}, api.Nat{0, 0, 1}, true}, {api.Nat{0, 1}, api.Nat{1, 0, 1}, false}, {api.Nat{0, 0, 1}, api.Nat{0, 1}, false}, {api.Nat{4, 5}, api.Nat{4, 13, 22, 15}, true}, {api.Nat{4, 5}, api.Nat{5, 13, 22, 15}, false},
	} {
		wantDivides(t, x.a, x.b, x.want)
	}
}
