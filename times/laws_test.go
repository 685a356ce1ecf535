package times

import (
	"encoding/binary"
	"math/big"
	"math/rand/v2"
	"slices"
	"testing"

	"artesian/api"
	"artesian/limbs"
)

// someDigits tells so many digits, of which many are 0 or the greatest.
func someDigits(r *rand.Rand, size int) api.Nat {
	n := make(api.Nat, size)
	for i := range n {
		n[i] = []uint64{0, top, r.Uint64(), r.Uint64N(4)}[r.IntN(4)]
	}
	return n
}

// someNats tells numbers of fewer than so many digits, always the same ones; some have noughts at the high end.
func someNats(count, below int) []api.Nat {
	r := rand.New(rand.NewPCG(3, 4))
	all := []api.Nat{nil, {0}, {1}, {1, 0}}
	for len(all) < count {
		all = append(all, someDigits(r, r.IntN(below)))
	}
	return all
}

// toBig tells a number by the library's type for it.
func toBig(n api.Nat) *big.Int {
	var b []byte
	for _, x := range slices.Backward(n) {
		b = binary.BigEndian.AppendUint64(b, x)
	}
	return new(big.Int).SetBytes(b)
}

// wantBig fails if a call's answer has a highest digit of 0, or isn't what the library tells.
func wantBig(t *testing.T, call string, got api.Nat, want *big.Int) {
	t.Helper()
	if limbs.Check(got) != api.OK || toBig(got).Cmp(want) != 0 {
		t.Errorf("%s: got %d digits, want %d bits", call, len(got), want.BitLen())
	}
}

func TestProductsAgreeWithLibrary(t *testing.T) {
	all := someNats(70, 14)
	for _, a := range all {
		x := toBig(a)
		wantBig(t, "Square", Square(a), new(big.Int).Mul(x, x))
		for _, y := range []uint64{0, 1, 2, 10, 1 << 63, top} {
			wantBig(t, "Grow", Grow(a, y), new(big.Int).Mul(x, new(big.Int).SetUint64(y)))
		}
		for _, b := range all {
			want := new(big.Int).Mul(x, toBig(b))
			wantBig(t, "School", School(a, b), want)
			wantBig(t, "Mul", Mul(a, b), want)
			for _, least := range []int{2, 3, 4, 5, 7, 1000} {
				wantBig(t, "Karatsuba", halved(t, a, b, least), want)
			}
		}
	}
}

func TestLongProductsAgreeWithLibrary(t *testing.T) {
	r := rand.New(rand.NewPCG(5, 6))
	sizes := []int{1, 2, 39, 79, 80, 81, 159, 160, 161, 500, 999, 1000, 1001, 2003}
	for _, m := range sizes {
		for _, n := range sizes {
			a, b := someDigits(r, m), someDigits(r, n)
			want := new(big.Int).Mul(toBig(a), toBig(b))
			wantBig(t, "School", School(a, b), want)
			wantBig(t, "Mul", Mul(a, b), want)
			for _, least := range []int{2, 50, 999, 1000} {
				wantBig(t, "Karatsuba", halved(t, a, b, least), want)
			}
		}
		a := someDigits(r, m)
		wantBig(t, "Square", Square(a), new(big.Int).Mul(toBig(a), toBig(a)))
	}
}

func TestPowersAgreeWithLibrary(t *testing.T) {
	for _, a := range someNats(30, 6) {
		for _, n := range []int{0, 1, 2, 3, 4, 5, 7, 8, 31, 32, 33, 100, 1023} {
			wantBig(t, "Power", powered(t, a, n), new(big.Int).Exp(toBig(a), big.NewInt(int64(n)), nil))
		}
	}
}

// A number of 256 bits is the greatest that may be taken to the highest power: all of its bits are 1 here.
func TestGreatestPower(t *testing.T) {
	a := full(top, 4)
	got := powered(t, a, api.MaxK)
	if limbs.Len(got) != api.MaxBits {
		t.Fatalf("%d bits", limbs.Len(got))
	}
	wantBig(t, "Power", got, new(big.Int).Exp(toBig(a), big.NewInt(api.MaxK), nil))
}

// P2.3

// ways tells each way to multiply two numbers.
func ways(t *testing.T) map[string]func(a, b api.Nat) api.Nat {
	return map[string]func(a, b api.Nat) api.Nat{
		"School":    School,
		"Mul":       Mul,
		"Karatsuba": func(a, b api.Nat) api.Nat { return halved(t, a, b, 2) },
	}
}

func TestProductsHangOnNoOrder(t *testing.T) {
	all := someNats(24, 8)
	for name, times := range ways(t) {
		for _, a := range all {
			for _, b := range all {
				wantNat(t, name, times(a, b), times(b, a))
				for _, c := range all {
					wantNat(t, name, times(times(a, b), c), times(a, times(b, c)))
				}
			}
		}
	}
}

func TestProductOfASumIsTheSumOfTheProducts(t *testing.T) {
	all := someNats(24, 8)
	for name, times := range ways(t) {
		for _, a := range all {
			for _, b := range all {
				for _, c := range all {
					wantNat(t, name, times(a, limbs.Add(b, c)), limbs.Add(times(a, b), times(a, c)))
				}
			}
		}
	}
}

func TestOneIsNeutralAndNoughtTakesAll(t *testing.T) {
	for name, times := range ways(t) {
		for _, a := range someNats(60, 90) {
			for _, one := range []api.Nat{{1}, {1, 0, 0}} {
				wantNat(t, name, times(a, one), limbs.Trim(a))
				wantNat(t, name, times(one, a), limbs.Trim(a))
			}
			for _, nought := range []api.Nat{nil, {0}, {0, 0, 0}} {
				wantNat(t, name, times(a, nought), nil)
				wantNat(t, name, times(nought, a), nil)
			}
		}
	}
}

func TestBitsOfAProduct(t *testing.T) {
	all := append(someNats(60, 12), full(top, 3), bit(64), bit(127), bit(0))
	for name, times := range ways(t) {
		for _, a := range all {
			for _, b := range all {
				got, both := limbs.Len(times(a, b)), limbs.Len(a)+limbs.Len(b)
				if limbs.Len(a) == 0 || limbs.Len(b) == 0 {
					both = 0
				}
				if got != both && (both == 0 || got != both-1) {
					t.Errorf("%s of %v and %v: %d bits", name, a, b, got)
				}
			}
		}
	}
}

func TestPowersAddUp(t *testing.T) {
	for _, a := range someNats(20, 4) {
		for _, m := range []int{0, 1, 2, 5, 16, 63} {
			for _, n := range []int{0, 1, 3, 8, 64} {
				wantNat(t, "Power", Mul(powered(t, a, m), powered(t, a, n)), powered(t, a, m+n))
			}
		}
	}
}

// Rule 4: an answer is new memory, and what is handed in is left alone.

// lent is a list with spare room, and what all of it held.
type lent struct{ list, held api.Nat }

func lend(digits ...uint64) lent {
	room := append(slices.Clone(digits), 91, 92, 93, 94)
	return lent{room[:len(digits)], slices.Clone(room)}
}

func (l lent) touched() bool {
	return !slices.Equal(l.list[:len(l.held)], l.held)
}

func TestAnswersAreNewMemory(t *testing.T) {
	calls := ways(t)
	calls["Square"] = func(a, b api.Nat) api.Nat { return Square(a) }
	calls["Grow"] = func(a, b api.Nat) api.Nat { return Grow(a, 1) }
	calls["Grow by 0"] = func(a, b api.Nat) api.Nat { return Grow(a, 0) }
	for n := range 4 {
		calls["Power "+string(rune('0'+n))] = func(a, b api.Nat) api.Nat { return powered(t, a, n) }
	}
	for name, call := range calls {
		for _, x := range [][2]lent{
			{lend(9, 9), lend(1)}, {lend(1), lend(9, 9)}, {lend(9, 9, 0, 0), lend(1, 0)}, {lend(9), lend()}, {lend(), lend()}, {lend(0, 0), lend(5)},
			{lend(0, 0, 1), lend(1)}, {lend(top, top), lend(top, top, top)}, {lend(1), lend(1)}, {lend(full(top, 90)...), lend(full(5, 85)...)},
		} {
			n := call(x[0].list, x[1].list)
			if x[0].touched() || x[1].touched() {
				t.Errorf("%s changed what it was handed", name)
			}
			room := n[:cap(n)]
			for i := range room {
				room[i] = 77
			}
			if x[0].touched() || x[1].touched() {
				t.Errorf("%s answered memory that it was handed", name)
			}
		}
	}
	wantNat(t, "Power", powered(t, nil, 0), api.Nat{1})
}

func TestOneListAsBothArguments(t *testing.T) {
	for name, times := range ways(t) {
		a := lend(top, 5, 0)
		wantNat(t, name, times(a.list, a.list), api.Nat{1, top - 11, 35})
		if a.touched() {
			t.Errorf("%s changed what it was handed", name)
		}
	}
}
