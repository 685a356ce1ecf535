package quot

import (
	"encoding/binary"
	"math/big"
	"math/rand/v2"
	"slices"
	"testing"

	"artesian/api"
	"artesian/limbs"
	"artesian/times"
)

// someDigits tells so many digits, of which many are near 0, near the greatest or near its half.
func someDigits(r *rand.Rand, size int) api.Nat {
	n := make(api.Nat, size)
	for i := range n {
		n[i] = []uint64{0, top - r.Uint64N(3), half - 1 + r.Uint64N(3), r.Uint64(), r.Uint64N(4)}[r.IntN(5)]
	}
	return n
}

// someNats tells numbers of fewer than so many digits, always the same ones; some have noughts at the high end.
func someNats(count, below int) []api.Nat {
	r := rand.New(rand.NewPCG(7, 8))
	all := []api.Nat{nil, {0, 0}, {1}, {1, 0}, {2}, {6}}
	for len(all) < count {
		all = append(all, someDigits(r, r.IntN(below)))
	}
	return all
}

// toBig tells a number by the library's type for it.
func toBig(n api.Nat) *big.Int {
	var b []byte
	for _, x := range slices.Backward(n) {
		b = binary.BigEndian.AppendUint64(b, x)
	}
	return new(big.Int).SetBytes(b)
}

// wantBig fails if a call's answer has a highest digit of 0, or isn't what the library tells.
func wantBig(t *testing.T, call string, got api.Nat, want *big.Int) {
	t.Helper()
	if limbs.Check(got) != api.OK || toBig(got).Cmp(want) != 0 {
		t.Errorf("%s: got %v, want %v", call, got, want)
	}
}

// wantDivAsLibrary fails if numbers aren't divided as the library does it.
func wantDivAsLibrary(t *testing.T, a, b api.Nat) {
	t.Helper()
	q, left, e := Div(a, b)
	if e != api.OK {
		t.Errorf("Div(%v, %v): %v", a, b, e)
	}
	wantQ, wantLeft := new(big.Int).QuoRem(toBig(a), toBig(b), new(big.Int))
	wantBig(t, "Div", q, wantQ)
	wantBig(t, "Div", left, wantLeft)
}

// P3.1: guesses of a quotient's digit

// miss is by how much the guess by the divisor's highest digit is too great, and the one by its two highest; and whether the first is more than a digit.
type miss struct {
	one, two int
	over     bool
}

// misses tells how a quotient's digits are guessed, by the library's numbers.
func misses(a, b api.Nat) []miss {
	size := (toBig(b).BitLen() + 63) / 64
	shift := uint(size*64 - toBig(b).BitLen())
	left, divisor := new(big.Int).Lsh(toBig(a), shift), new(big.Int).Lsh(toBig(b), shift)
	greatest := new(big.Int).SetUint64(top)
	var all []miss
	for place := len(a) - size; place >= 0; place-- {
		right, rest := new(big.Int).QuoRem(left, new(big.Int).Lsh(divisor, uint(place*64)), new(big.Int))
		by := func(digits int) *big.Int {
			low := uint(size-digits) * 64
			return new(big.Int).Quo(new(big.Int).Rsh(left, uint(place*64)+low), new(big.Int).Rsh(divisor, low))
		}
		one, two := by(1), by(2)
		over := one.Cmp(greatest) > 0
		if two.Cmp(greatest) > 0 {
			two = greatest
		}
		all = append(all, miss{int(one.Sub(one, right).Int64()), int(new(big.Int).Sub(two, right).Int64()), over})
		left = rest
	}
	return all
}

func TestGuessesThatAreTooGreat(t *testing.T) {
	for _, x := range []struct {
		has           miss
		a, b, q, left api.Nat
	}{
		{miss{0, 0, false}, api.Nat{half, half}, api.Nat{top, 1}, api.Nat{1 << 62}, api.Nat{3 << 62}},
		{miss{1, 0, false}, api.Nat{top - 2, top}, api.Nat{3, 3}, api.Nat{6148914691236517204}, api.Nat{1, 3}},
		{miss{2, 0, false}, api.Nat{0, 0, half - 1}, api.Nat{top, half}, api.Nat{top - 3}, api.Nat{top - 3, 4}},
		{miss{2, 0, false}, api.Nat{0, 0, 0, half - 1}, api.Nat{top, top, half}, api.Nat{top - 3}, api.Nat{top - 3, 0, 4}},
		{miss{2, 0, false}, api.Nat{half, half - 1, top - 2}, api.Nat{top, half + 1}, api.Nat{top - 12, 1}, api.Nat{half - 13, 27}},
		{miss{1, 1, false}, api.Nat{3, 0, half}, api.Nat{1, 0, 1 << 61}, api.Nat{3}, api.Nat{0, 0, 1 << 61}},
		{miss{1, 1, false}, api.Nat{3, top, top}, api.Nat{top - 1, top, half - 1}, api.Nat{1}, api.Nat{5, top, half - 1}},
		{miss{2, 1, false}, api.Nat{2, 0, top}, api.Nat{3, 1, 1}, api.Nat{top - 2}, api.Nat{11, 0, 1}},
		{miss{1, 0, true}, api.Nat{7, 0, half}, api.Nat{1, half}, api.Nat{top}, api.Nat{8, half - 1}},
		{miss{1, 0, true}, api.Nat{2, top - 1, 2}, api.Nat{top, 2}, api.Nat{top}, api.Nat{1, 2}},
		{miss{2, 0, true}, api.Nat{0, 0, half}, api.Nat{top, half}, api.Nat{top - 1}, api.Nat{top - 1, 2}},
		{miss{2, 0, true}, api.Nat{0, top - 1, half}, api.Nat{top, half}, api.Nat{top}, api.Nat{top, half - 1}},
		{miss{2, 1, true}, api.Nat{3, 2, 0, top - 2}, api.Nat{top, top - 1, top - 2}, api.Nat{top - 1}, api.Nat{1, 1, top - 2}},
	} {
		if !slices.Contains(misses(x.a, x.b), x.has) {
			t.Errorf("%v by %v is not guessed so: %v", x.a, x.b, misses(x.a, x.b))
		}
		wantDiv(t, x.a, x.b, x.q, x.left)
	}
}

// A divisor of two digits is seen whole by a guess, which is then the quotient's digit, without anything to give back.
func TestGuessByAllDigitsIsRight(t *testing.T) {
	edges := []uint64{0, 1, 2, 3, half - 1, half, half + 1, top - 2, top - 1, top}
	r := rand.New(rand.NewPCG(11, 12))
	for range 100000 {
		left, divisor := make(api.Nat, 3), make(api.Nat, 2)
		for i := range left {
			left[i] = edges[r.IntN(len(edges))]
		}
		divisor[0], divisor[1] = edges[r.IntN(len(edges))], edges[5+r.IntN(5)]
		if limbs.Cmp(left[1:], divisor) >= 0 {
			continue
		}
		want := new(big.Int).Quo(toBig(left), toBig(divisor))
		if got := guess(left, divisor); got != want.Uint64() {
			t.Errorf("guess(%v, %v): got %d, want %v", left, divisor, got, want)
		}
	}
}

func TestQuotientsAgreeWithLibrary(t *testing.T) {
	all := someNats(250, 9)
	for _, a := range all {
		for _, b := range all {
			if limbs.Len(b) > 0 {
				wantDivAsLibrary(t, a, b)
			}
		}
		for _, x := range []uint64{1, 2, 3, 10, 1e19, half, top} {
			q, left, e := Part(a, x)
			wantQ, wantLeft := new(big.Int).QuoRem(toBig(a), new(big.Int).SetUint64(x), new(big.Int))
			wantBig(t, "Part", q, wantQ)
			if e != api.OK || left != wantLeft.Uint64() {
				t.Errorf("Part(%v, %d): %d, %v", a, x, left, e)
			}
		}
	}
}

func TestLongQuotientsAgreeWithLibrary(t *testing.T) {
	r := rand.New(rand.NewPCG(9, 10))
	sizes := []int{1, 2, 3, 40, 99, 100, 101, 500, 1003}
	for _, m := range sizes {
		for _, n := range sizes {
			wantDivAsLibrary(t, someDigits(r, m), append(someDigits(r, n), 1))
			wantDivAsLibrary(t, full(top, m), full(top, n))
			wantDivAsLibrary(t, append(full(0, m), 1), full(top, n))
		}
	}
}

// P3.2

func TestGcdAgreesWithLibrary(t *testing.T) {
	all := someNats(80, 9)
	for _, a := range all {
		for _, b := range all {
			want := new(big.Int).GCD(nil, nil, toBig(a), toBig(b))
			wantBig(t, "Gcd", Gcd(a, b), want)
			divides := want.Cmp(toBig(a)) == 0
			if Divides(a, b) != divides {
				t.Errorf("Divides(%v, %v): want %v", a, b, divides)
			}
		}
	}
}

// Of two Fibonacci numbers, one behind the other, each step takes off as little as there is.
func TestGcdOfManySteps(t *testing.T) {
	a, b := limbs.Of(1), limbs.Of(1)
	for range 5000 {
		a, b = b, limbs.Add(a, b)
	}
	wantGcd(t, a, b, limbs.Of(1))
	c := api.Nat{top, 5, 9}
	wantGcd(t, times.Mul(a, c), times.Mul(b, c), c)
}

// P3.3

func TestWhatWasDividedIsPutTogetherAgain(t *testing.T) {
	all := someNats(150, 8)
	for _, a := range all {
		for _, b := range all {
			q, left, e := Div(a, b)
			if limbs.Len(b) == 0 {
				continue
			}
			if e != api.OK || limbs.Cmp(left, b) >= 0 {
				t.Errorf("Div(%v, %v): %v is left, %v", a, b, left, e)
			}
			if again := limbs.Add(times.Mul(q, b), left); limbs.Cmp(again, a) != 0 {
				t.Errorf("Div(%v, %v): put together %v", a, b, again)
			}
		}
		for _, x := range []uint64{1, 7, half, top} {
			q, left, e := Part(a, x)
			if e != api.OK || left >= x {
				t.Errorf("Part(%v, %d): %d is left, %v", a, x, left, e)
			}
			if again := limbs.Add(times.Grow(q, x), limbs.Of(left)); limbs.Cmp(again, a) != 0 {
				t.Errorf("Part(%v, %d): put together %v", a, x, again)
			}
		}
	}
}

func TestMultiplesAreDivided(t *testing.T) {
	all := someNats(60, 6)
	for _, a := range all {
		for _, k := range all {
			multiple := times.Mul(a, k)
			wantDivides(t, a, multiple, true)
			// What is 1 more is a multiple of 1 alone (and of 0 nothing is).
			wantDivides(t, a, limbs.Add(multiple, limbs.Of(1)), limbs.Len(a) == 1)
			if limbs.Len(a) > 0 {
				wantDiv(t, multiple, a, limbs.Trim(k), nil)
			}
		}
	}
}

func TestGcdOfMultiples(t *testing.T) {
	all := someNats(24, 5)
	for _, a := range all {
		for _, b := range all {
			g := Gcd(a, b)
			for _, c := range all {
				ac, bc := times.Mul(a, c), times.Mul(b, c)
				got := Gcd(ac, bc)
				if want := times.Mul(g, c); !slices.Equal(got, want) {
					t.Errorf("Gcd of %v and %v, %v times: got %v, want %v", a, b, c, got, want)
				}
				if !Divides(c, got) || !Divides(got, ac) || !Divides(got, bc) {
					t.Errorf("Gcd of %v and %v, %v times: %v", a, b, c, got)
				}
			}
		}
	}
}

func TestWhatIsDividedByTheGcdHasNoneInCommon(t *testing.T) {
	all := someNats(60, 6)
	for _, a := range all {
		for _, b := range all {
			g := Gcd(a, b)
			x, leftA, e := Div(a, g)
			if limbs.Len(g) == 0 {
				if limbs.Len(a) != 0 || limbs.Len(b) != 0 || e != api.ErrZero {
					t.Errorf("Gcd(%v, %v) is 0", a, b)
				}
				continue
			}
			y, leftB, _ := Div(b, g)
			if len(leftA) != 0 || len(leftB) != 0 || !slices.Equal(Gcd(x, y), api.Nat{1}) {
				t.Errorf("Gcd(%v, %v): %v", a, b, g)
			}
		}
	}
}

// Rule 4: an answer is new memory, and what is handed in is left alone.

// lent is a list with spare room, and what all of it held.
type lent struct{ list, held api.Nat }

func lend(digits ...uint64) lent {
	room := append(slices.Clone(digits), 91, 92, 93, 94)
	return lent{room[:len(digits)], slices.Clone(room)}
}

func (l lent) touched() bool {
	return !slices.Equal(l.list[:len(l.held)], l.held)
}

// scribble writes over all of a list's memory.
func scribble(n api.Nat) {
	room := n[:cap(n)]
	for i := range room {
		room[i] = 77
	}
}

func TestAnswersAreNewMemory(t *testing.T) {
	calls := map[string]func(a, b api.Nat) (api.Nat, api.Nat){
		"Div":     func(a, b api.Nat) (api.Nat, api.Nat) { q, left, _ := Div(a, b); return q, left },
		"Part":    func(a, b api.Nat) (api.Nat, api.Nat) { q, _, _ := Part(a, 1); return q, nil },
		"Part 5":  func(a, b api.Nat) (api.Nat, api.Nat) { q, _, _ := Part(a, 5); return q, nil },
		"Gcd":     func(a, b api.Nat) (api.Nat, api.Nat) { return Gcd(a, b), nil },
		"Divides": func(a, b api.Nat) (api.Nat, api.Nat) { Divides(a, b); return nil, nil },
	}
	lists := []api.Nat{nil, {0, 0}, {1}, {1, 0}, {9}, {5, 7}, {5, 7, 0, 0}, {0, 0, half}, {top, half}, {top, top, top}, {0, 0, 0, 1}}
	for name, call := range calls {
		for _, x := range lists {
			for _, y := range lists {
				a, b := lend(x...), lend(y...)
				one, two := call(a.list, b.list)
				if a.touched() || b.touched() {
					t.Errorf("%s changed what it was handed: %v, %v", name, x, y)
				}
				kept := slices.Clone(two)
				scribble(one)
				if !slices.Equal(two, kept) {
					t.Errorf("%s answered one memory twice: %v, %v", name, x, y)
				}
				scribble(two)
				if a.touched() || b.touched() {
					t.Errorf("%s answered memory that it was handed: %v, %v", name, x, y)
				}
			}
		}
	}
}

func TestOneListAsBothArguments(t *testing.T) {
	for _, n := range []api.Nat{{5}, {top, 5}, {top, 5, 0}, full(top, 6)} {
		a := lend(n...)
		wantGcd(t, a.list, a.list, limbs.Trim(n))
		wantDiv(t, a.list, a.list, api.Nat{1}, nil)
		wantDivides(t, a.list, a.list, true)
		if a.touched() {
			t.Errorf("what was handed is changed: %v", n)
		}
	}
}
