package times

import (
	"math"
	"slices"
	"testing"

	"artesian/api"
)

// top is the greatest digit.
const top = math.MaxUint64

// full tells a list of so many of the same digit.
func full(x uint64, count int) api.Nat {
	return slices.Repeat(api.Nat{x}, count)
}

// bit tells 2^place.
func bit(place int) api.Nat {
	n := make(api.Nat, place/64+1)
	n[place/64] = 1 << (place % 64)
	return n
}

// wantNat fails if a call's answer isn't the number.
func wantNat(t *testing.T, call string, got, want api.Nat) {
	t.Helper()
	if !slices.Equal(got, want) {
		t.Errorf("%s: got %v, want %v", call, got, want)
	}
}

// wantRefused fails if a call didn't answer the error and nothing beside it.
func wantRefused(t *testing.T, call string, got api.Nat, err, want api.Errno) {
	t.Helper()
	if err != want || len(got) != 0 {
		t.Errorf("%s: got %d digits, %v, want no digit, %v", call, len(got), err, want)
	}
}

// halved tells a product by halves from so many digits on, which must not be refused.
func halved(t *testing.T, a, b api.Nat, least int) api.Nat {
	t.Helper()
	n, e := Karatsuba(a, b, least)
	if e != api.OK {
		t.Errorf("Karatsuba from %d digits on: %v", least, e)
	}
	return n
}

// powered tells a power, which must not be refused.
func powered(t *testing.T, a api.Nat, n int) api.Nat {
	t.Helper()
	x, e := Power(a, n)
	if e != api.OK {
		t.Errorf("Power(.., %d): %v", n, e)
	}
	return x
}

// P2.1

func TestProductsOfTheChapter(t *testing.T) {
	wantNat(t, "School", School(api.Nat{top}, api.Nat{top}), api.Nat{1, top - 1})
	wantNat(t, "Mul", Mul(api.Nat{0, 1}, api.Nat{0, 0, 1}), api.Nat{0, 0, 0, 1})
	wantNat(t, "Square", Square(api.Nat{3}), api.Nat{9})
	wantNat(t, "Grow", Grow(api.Nat{5, 7}, 2), api.Nat{10, 14})
	wantNat(t, "Karatsuba", halved(t, api.Nat{1, 2, 3}, api.Nat{4, 5}, 2), api.Nat{4, 13, 22, 15})
	n, e := Karatsuba(api.Nat{1}, api.Nat{1}, 1)
	wantRefused(t, "Karatsuba", n, e, api.ErrRange)
	wantNat(t, "Mul", Mul(nil, api.Nat{5}), nil)
}

func TestProductsByAllWays(t *testing.T) {
	for _, x := range []struct{ a, b, want api.Nat }{
		{nil, nil, nil}, {nil, api.Nat{1}, nil}, {nil, full(top, 9), nil}, {full(0, 4), full(top, 3), nil}, {full(0, 3), full(0, 5), nil},
		{api.Nat{1}, api.Nat{1}, api.Nat{1}}, {api.Nat{6}, api.Nat{7}, api.Nat{42}},
		{api.Nat{3, 0}, api.Nat{2, 0, 0}, api.Nat{6}}, {api.Nat{0, 3, 0}, api.Nat{2, 0}, api.Nat{0, 6}},
		{api.Nat{1 << 32}, api.Nat{1 << 32}, api.Nat{0, 1}}, {api.Nat{1 << 63}, api.Nat{2}, api.Nat{0, 1}}, {api.Nat{1 << 63}, api.Nat{1 << 63}, api.Nat{0, 1 << 62}},
		{api.Nat{top, top}, api.Nat{top}, api.Nat{1, top, top - 1}}, {api.Nat{top, top}, api.Nat{top, top}, api.Nat{1, 0, top - 1, top}},
		{api.Nat{0, 0, 1}, api.Nat{0, 0, 0, 5}, api.Nat{0, 0, 0, 0, 0, 5}}, {api.Nat{1, 2, 3}, api.Nat{4, 5}, api.Nat{4, 13, 22, 15}},
		{api.Nat{1, 1, 1, 1, 1}, api.Nat{1, 1, 1}, api.Nat{1, 2, 3, 3, 3, 2, 1}},
	} {
		for _, swap := range []bool{false, true} {
			a, b := x.a, x.b
			if swap {
				a, b = b, a
			}
			wantNat(t, "School", School(a, b), x.want)
			wantNat(t, "Mul", Mul(a, b), x.want)
			for _, least := range []int{2, 3, 4, 1000} {
				wantNat(t, "Karatsuba", halved(t, a, b, least), x.want)
			}
			if len(b) == 1 {
				wantNat(t, "Grow", Grow(a, b[0]), x.want)
			}
		}
	}
}

func TestSquareAndGrow(t *testing.T) {
	for _, x := range []struct{ a, want api.Nat }{
		{nil, nil}, {full(0, 3), nil}, {api.Nat{1}, api.Nat{1}}, {api.Nat{12, 0}, api.Nat{144}}, {api.Nat{top}, api.Nat{1, top - 1}}, {api.Nat{1, 1}, api.Nat{1, 2, 1}},
	} {
		wantNat(t, "Square", Square(x.a), x.want)
	}
	for _, x := range []struct {
		a    api.Nat
		x    uint64
		want api.Nat
	}{
		{nil, 0, nil}, {nil, 7, nil}, {api.Nat{5, 7}, 0, nil}, {full(0, 3), top, nil}, {api.Nat{5, 7, 0}, 1, api.Nat{5, 7}},
		{api.Nat{top, top}, top, api.Nat{1, top, top - 1}}, {api.Nat{top}, 2, api.Nat{top - 1, 1}}, {api.Nat{0, 0, 1 << 63}, 2, api.Nat{0, 0, 0, 1}},
	} {
		wantNat(t, "Grow", Grow(x.a, x.x), x.want)
	}
}

func TestHalvesFromHowManyDigits(t *testing.T) {
	a, b := api.Nat{1, 2, 3}, api.Nat{4, 5}
	for _, least := range []int{math.MinInt, -1000, -1, 0, 1, 1001, 1002, math.MaxInt} {
		n, e := Karatsuba(a, b, least)
		wantRefused(t, "Karatsuba", n, e, api.ErrRange)
		n, e = Karatsuba(nil, nil, least)
		wantRefused(t, "Karatsuba", n, e, api.ErrRange)
	}
	for _, least := range []int{2, 3, 999, 1000} {
		wantNat(t, "Karatsuba", halved(t, a, b, least), api.Nat{4, 13, 22, 15})
		wantNat(t, "Karatsuba", halved(t, nil, b, least), nil)
	}
}

// Sums of full halves carry, so their length is that of the number which was cut.
func TestHalvesOfFullNumbersEnd(t *testing.T) {
	for size := 1; size <= 24; size++ {
		for other := 1; other <= size; other++ {
			a, b := full(top, size), full(top, other)
			// The lower digits are 1 and noughts, then the greatest one up to a's end; behind it comes b less 1.
			want := append(append(append(api.Nat{1}, full(0, other-1)...), full(top, size-other)...), top-1)
			want = append(want, full(top, other-1)...)
			wantNat(t, "School", School(a, b), want)
			for least := 2; least <= 9; least++ {
				wantNat(t, "Karatsuba", halved(t, a, b, least), want)
				wantNat(t, "Karatsuba", halved(t, b, a, least), want)
			}
		}
	}
}

// P2.2

func TestPowersOfTheChapter(t *testing.T) {
	wantNat(t, "Power", powered(t, api.Nat{2}, 64), api.Nat{0, 1})
	wantNat(t, "Power", powered(t, nil, 0), api.Nat{1})
	n, e := Power(api.Nat{3}, -1)
	wantRefused(t, "Power", n, e, api.ErrRange)
	n, e = Power(bit(256), 65536)
	wantRefused(t, "Power", n, e, api.ErrLong)
	n, e = Power(api.Nat{2}, 65537)
	wantRefused(t, "Power", n, e, api.ErrRange)
}

func TestPowers(t *testing.T) {
	for _, x := range []struct {
		a    api.Nat
		n    int
		want api.Nat
	}{
		{nil, 0, api.Nat{1}}, {full(0, 2), 0, api.Nat{1}}, {api.Nat{1}, 0, api.Nat{1}}, {full(top, 9), 0, api.Nat{1}},
		{nil, 1, nil}, {nil, 2, nil}, {full(0, 3), 65535, nil}, {nil, 65536, nil},
		{api.Nat{1}, 65536, api.Nat{1}}, {api.Nat{1, 0}, 3, api.Nat{1}}, {api.Nat{7, 9, 0}, 1, api.Nat{7, 9}},
		{api.Nat{3}, 2, api.Nat{9}}, {api.Nat{3}, 5, api.Nat{243}}, {api.Nat{3, 0, 0}, 6, api.Nat{729}}, {api.Nat{10}, 19, api.Nat{10000000000000000000}},
		{api.Nat{1, 1}, 4, api.Nat{1, 4, 6, 4, 1}}, {api.Nat{0, 2}, 3, api.Nat{0, 0, 0, 8}}, {api.Nat{2}, 65536, bit(65536)}, {api.Nat{2}, 65535, bit(65535)},
	} {
		wantNat(t, "Power", powered(t, x.a, x.n), x.want)
	}
}

func TestPowersOutOfRange(t *testing.T) {
	for _, n := range []int{math.MinInt, -65536, -2, -1, 65537, 1 << 20, 1 << 32, math.MaxInt} {
		for _, a := range []api.Nat{nil, {1}, {3}, bit(256), full(0, 5), bit(1 << 24)} {
			x, e := Power(a, n)
			wantRefused(t, "Power", x, e, api.ErrRange)
		}
	}
}

func TestPowersOfTooManyBits(t *testing.T) {
	for _, x := range []struct {
		bits, n int
	}{
		{1<<24 + 1, 1}, {1<<24 + 64, 1}, {1<<23 + 1, 2}, {1<<24/3 + 1, 3}, {257, 65536}, {257, 65535}, {1024, 16385}, {1 << 24, 65536},
	} {
		n, e := Power(bit(x.bits-1), x.n)
		wantRefused(t, "Power", n, e, api.ErrLong)
	}
}

func TestPowersOfJustSoManyBits(t *testing.T) {
	for _, x := range []struct {
		bits, n int
	}{
		{1 << 24, 1}, {1 << 23, 2}, {1 << 24 / 3, 3}, {256, 65536}, {256, 65535}, {1024, 16384}, {1 << 25, 0},
	} {
		// Of 2^(bits - 1) the answer is a power of 2, whose digits are known.
		if n := powered(t, bit(x.bits-1), x.n); !slices.Equal(n, bit((x.bits-1)*x.n)) {
			t.Errorf("2^%d to the power %d: %d digits", x.bits-1, x.n, len(n))
		}
	}
	// Highest noughts are no bits.
	wantNat(t, "Power", powered(t, append(api.Nat{5}, full(0, 1<<18+1)...), 2), api.Nat{25})
}
