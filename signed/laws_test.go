package signed

import (
	"encoding/binary"
	"math/big"
	"math/rand/v2"
	"slices"
	"testing"

	"artesian/api"
)

// someInts tells whole numbers of up to seven digits on both sides of 0, always the same ones: many of their digits are near 0, near the greatest or near its half. The first ones are the edges; some are none.
func someInts(count int) []api.Int {
	r := rand.New(rand.NewPCG(13, 14))
	all := []api.Int{
		nought, down(), up(0), down(0, 0), up(1), down(1), up(2), down(2), up(1, 0), down(1, 0),
		up(half - 1), up(half), down(half), down(half + 1), up(top), down(top), up(0, 1), down(0, 1),
	}
	for len(all) < count {
		n := make(api.Nat, 1+r.IntN(7))
		for i := range n {
			n[i] = []uint64{0, top - r.Uint64N(3), half - 1 + r.Uint64N(3), r.Uint64(), r.Uint64N(4)}[r.IntN(5)]
		}
		all = append(all, api.Int{Below: r.IntN(2) == 1, N: n})
	}
	return all
}

// toBig tells a number by the library's type for it.
func toBig(n api.Int) *big.Int {
	var b []byte
	for _, x := range slices.Backward(n.N) {
		b = binary.BigEndian.AppendUint64(b, x)
	}
	x := new(big.Int).SetBytes(b)
	if n.Below {
		x.Neg(x)
	}
	return x
}

// wantBig fails if a call's answer is none, or isn't what the library tells.
func wantBig(t *testing.T, call string, got api.Int, want *big.Int) {
	t.Helper()
	if Check(got) != api.OK || toBig(got).Cmp(want) != 0 {
		t.Errorf("%s: got %v, want %v", call, got, want)
	}
}

// P4.1 and P4.2

func TestSingleNumbersAgreeWithLibrary(t *testing.T) {
	for _, a := range someInts(400) {
		x := toBig(a)
		wantBig(t, "Make", Make(a.Below, a.N), x)
		wantBig(t, "Neg", Neg(a), new(big.Int).Neg(x))
		if Sign(a) != x.Sign() {
			t.Errorf("Sign(%v): %d", a, Sign(a))
		}
		y, is := One(a)
		if is != x.IsInt64() || is && int64(y) != x.Int64() || !is && y != 0 {
			t.Errorf("One(%v): %d, %v", a, y, is)
		}
		if is {
			wantBig(t, "Of", Of(y), x)
		}
		if good := same(a, Make(a.Below, a.N)); good != (Check(a) == api.OK) {
			t.Errorf("Check(%v): %v", a, Check(a))
		}
	}
}

func TestPairsAgreeWithLibrary(t *testing.T) {
	all := someInts(250)
	for _, a := range all {
		x := toBig(a)
		for _, b := range all {
			y := toBig(b)
			wantBig(t, "Add", Add(a, b), new(big.Int).Add(x, y))
			wantBig(t, "Sub", Sub(a, b), new(big.Int).Sub(x, y))
			wantBig(t, "Mul", Mul(a, b), new(big.Int).Mul(x, y))
			if Cmp(a, b) != x.Cmp(y) {
				t.Errorf("Cmp(%v, %v): %d", a, b, Cmp(a, b))
			}
		}
	}
}

func TestLongNumbersAgreeWithLibrary(t *testing.T) {
	r := rand.New(rand.NewPCG(15, 16))
	var all []api.Int
	for _, size := range []int{1, 79, 80, 300, 1001} {
		n := make(api.Nat, size)
		for i := range n {
			n[i] = r.Uint64()
		}
		all = append(all, api.Int{N: n}, api.Int{Below: true, N: n}, api.Int{Below: true, N: append(slices.Clone(n), 0)}, api.Int{N: full(top, size)}, api.Int{Below: true, N: full(top, size)})
	}
	for _, a := range all {
		x := toBig(a)
		for _, b := range all {
			y := toBig(b)
			wantBig(t, "Add", Add(a, b), new(big.Int).Add(x, y))
			wantBig(t, "Sub", Sub(a, b), new(big.Int).Sub(x, y))
			wantBig(t, "Mul", Mul(a, b), new(big.Int).Mul(x, y))
			if Cmp(a, b) != x.Cmp(y) {
				t.Errorf("Cmp of %d and %d digits: %d", len(a.N), len(b.N), Cmp(a, b))
			}
		}
	}
}

// An Int that is none is taken as Make of both, so the answers are the same digit by digit.
func TestNoneIsTakenAsMade(t *testing.T) {
	all := someInts(120)
	for _, a := range all {
		made := Make(a.Below, a.N)
		wantInt(t, "Neg", Neg(a), Neg(made))
		for _, b := range all {
			other := Make(b.Below, b.N)
			wantInt(t, "Add", Add(a, b), Add(made, other))
			wantInt(t, "Sub", Sub(a, b), Sub(made, other))
			wantInt(t, "Mul", Mul(a, b), Mul(made, other))
			if Cmp(a, b) != Cmp(made, other) {
				t.Errorf("Cmp(%v, %v): %d", a, b, Cmp(a, b))
			}
		}
	}
}

// P4.3

func TestSumsAndProductsHangOnNoOrder(t *testing.T) {
	all := someInts(45)
	for _, a := range all {
		for _, b := range all {
			wantInt(t, "a sum turned round", Add(b, a), Add(a, b))
			wantInt(t, "a product turned round", Mul(b, a), Mul(a, b))
			sum, product := Add(a, b), Mul(a, b)
			for _, c := range all {
				wantInt(t, "a sum of three", Add(sum, c), Add(a, Add(b, c)))
				wantInt(t, "a product of three", Mul(product, c), Mul(a, Mul(b, c)))
				wantInt(t, "a product of a sum", Mul(sum, c), Add(Mul(a, c), Mul(b, c)))
			}
		}
	}
}

func TestWhatIsAddedIsTakenAwayAgain(t *testing.T) {
	all := someInts(150)
	for _, a := range all {
		made := Make(a.Below, a.N)
		wantInt(t, "with 0", Add(a, nought), made)
		wantInt(t, "times 1", Mul(a, Of(1)), made)
		wantInt(t, "times -1", Mul(a, Of(-1)), Neg(a))
		wantInt(t, "without itself", Sub(a, a), nought)
		wantInt(t, "with its other side", Add(a, Neg(a)), nought)
		wantInt(t, "turned twice", Neg(Neg(a)), made)
		for _, b := range all {
			wantInt(t, "Sub of Add", Sub(Add(a, b), b), made)
			wantInt(t, "Add of Sub", Add(Sub(a, b), b), made)
			wantInt(t, "Sub", Sub(a, b), Add(a, Neg(b)))
			wantInt(t, "Sub turned round", Sub(b, a), Neg(Sub(a, b)))
		}
	}
}

func TestOrderIsKeptBySumsAndProducts(t *testing.T) {
	all := someInts(50)
	for _, a := range all {
		for _, b := range all {
			order := Cmp(a, b)
			if Cmp(b, a) != -order || Sign(Sub(a, b)) != order {
				t.Errorf("%v and %v: %d, back %d, by their difference %d", a, b, order, Cmp(b, a), Sign(Sub(a, b)))
			}
			if Sign(Mul(a, b)) != Sign(a)*Sign(b) {
				t.Errorf("the side of %v times %v", a, b)
			}
			for _, c := range all {
				if Cmp(Add(a, c), Add(b, c)) != order {
					t.Errorf("%v and %v, both with %v", a, b, c)
				}
				if Cmp(Mul(a, c), Mul(b, c)) != order*Sign(c) {
					t.Errorf("%v and %v, both times %v", a, b, c)
				}
			}
		}
	}
}

// Whoever is less than one that is less than a third is less than the third.
func TestOrderIsOne(t *testing.T) {
	all := someInts(200)
	slices.SortFunc(all, Cmp)
	for i, a := range all {
		for _, b := range all[i:] {
			if Cmp(a, b) > 0 {
				t.Errorf("%v stands ahead of %v", a, b)
			}
		}
	}
}

// Rule 4: an answer is new memory, and what is handed in is left alone.

// lent is a number whose list has spare room, and what all of it held.
type lent struct {
	n    api.Int
	held api.Nat
}

func lend(n api.Int) lent {
	room := append(slices.Clone(n.N), 91, 92, 93, 94)
	return lent{api.Int{Below: n.Below, N: room[:len(n.N)]}, slices.Clone(room)}
}

func (l lent) touched() bool {
	return !slices.Equal(l.n.N[:len(l.held)], l.held)
}

// calls tells all calls that answer a number, as calls of two.
func calls() map[string]func(a, b api.Int) api.Int {
	return map[string]func(a, b api.Int) api.Int{
		"Make": func(a, b api.Int) api.Int { return Make(a.Below, a.N) },
		"Neg":  func(a, b api.Int) api.Int { return Neg(a) },
		"Add":  Add,
		"Sub":  Sub,
		"Mul":  Mul,
	}
}

func TestAnswersAreNewMemory(t *testing.T) {
	all := someInts(60)
	for name, call := range calls() {
		for _, x := range all {
			for _, y := range all {
				a, b := lend(x), lend(y)
				got := call(a.n, b.n)
				if a.touched() || b.touched() {
					t.Errorf("%s changed what it was handed: %v, %v", name, x, y)
				}
				room := got.N[:cap(got.N)]
				for i := range room {
					room[i] = 77
				}
				if a.touched() || b.touched() {
					t.Errorf("%s answered memory that it was handed: %v, %v", name, x, y)
				}
				wantInt(t, name+" again", call(a.n, b.n), call(x, y))
			}
		}
	}
}

func TestCallsThatLookChangeNothing(t *testing.T) {
	for _, x := range someInts(60) {
		a, b := lend(x), lend(x)
		Check(a.n)
		One(a.n)
		Sign(a.n)
		Cmp(a.n, b.n)
		if a.touched() || b.touched() {
			t.Errorf("what was handed in is changed: %v", x)
		}
	}
}

func TestOneNumberAsBothArguments(t *testing.T) {
	for _, x := range someInts(60) {
		a := lend(x)
		wantInt(t, "Add", Add(a.n, a.n), Mul(x, Of(2)))
		wantInt(t, "Sub", Sub(a.n, a.n), nought)
		wantBig(t, "Mul", Mul(a.n, a.n), new(big.Int).Mul(toBig(x), toBig(x)))
		if Cmp(a.n, a.n) != 0 || a.touched() {
			t.Errorf("%v and itself", x)
		}
	}
}
