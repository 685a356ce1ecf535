package limbs

import (
	"encoding/binary"
	"math/big"
	"math/rand/v2"
	"slices"
	"testing"

	"artesian/api"
)

// someNats tells numbers of up to eight digits, always the same ones: many of their digits are 0 or the greatest, and some have noughts at the high end.
func someNats(count int) []api.Nat {
	r := rand.New(rand.NewPCG(1, 2))
	var all []api.Nat
	for range count {
		n := make(api.Nat, r.IntN(9))
		for i := range n {
			n[i] = []uint64{0, top, r.Uint64(), r.Uint64N(4)}[r.IntN(4)]
		}
		all = append(all, n)
	}
	return all
}

// toBig tells a number by the library's type for it.
func toBig(n api.Nat) *big.Int {
	var b []byte
	for _, x := range slices.Backward(n) {
		b = binary.BigEndian.AppendUint64(b, x)
	}
	return new(big.Int).SetBytes(b)
}

// wantBig fails if a call's answer is none, or isn't what the library tells.
func wantBig(t *testing.T, call string, got api.Nat, want *big.Int) {
	t.Helper()
	if Check(got) != api.OK || toBig(got).Cmp(want) != 0 {
		t.Errorf("%s: got %v, want %v", call, got, want)
	}
}

func TestAgreesWithLibrary(t *testing.T) {
	all := someNats(120)
	for _, a := range all {
		x := toBig(a)
		wantBig(t, "Trim", Trim(a), x)
		if Len(a) != x.BitLen() {
			t.Errorf("Len(%v): %d", a, Len(a))
		}
		if y, is := One(a); is != x.IsUint64() || is && y != x.Uint64() || !is && y != 0 {
			t.Errorf("One(%v): %d, %v", a, y, is)
		}
		for _, b := range all {
			y := toBig(b)
			wantBig(t, "Add", Add(a, b), new(big.Int).Add(x, y))
			if Cmp(a, b) != x.Cmp(y) {
				t.Errorf("Cmp(%v, %v): %d", a, b, Cmp(a, b))
			}
			n, e := Sub(a, b)
			if x.Cmp(y) < 0 {
				wantRefused(t, "Sub", n, e, api.ErrRange)
				continue
			}
			if wantBig(t, "Sub", n, new(big.Int).Sub(x, y)); e != api.OK {
				t.Errorf("Sub(%v, %v): %v", a, b, e)
			}
		}
	}
}

func TestMovesAgreeWithLibrary(t *testing.T) {
	for _, a := range someNats(60) {
		x := toBig(a)
		for bits := range 640 {
			up, e := Up(a, bits)
			if wantBig(t, "Up", up, new(big.Int).Lsh(x, uint(bits))); e != api.OK {
				t.Errorf("Up(%v, %d): %v", a, bits, e)
			}
			down, e := Down(a, bits)
			if wantBig(t, "Down", down, new(big.Int).Rsh(x, uint(bits))); e != api.OK {
				t.Errorf("Down(%v, %d): %v", a, bits, e)
			}
		}
	}
}

// P1.4

func TestSumsHangOnNoOrder(t *testing.T) {
	all := someNats(30)
	for _, a := range all {
		for _, b := range all {
			if !slices.Equal(Add(a, b), Add(b, a)) {
				t.Errorf("%v and %v", a, b)
			}
			for _, c := range all {
				if !slices.Equal(Add(Add(a, b), c), Add(a, Add(b, c))) {
					t.Errorf("%v, %v and %v", a, b, c)
				}
			}
		}
	}
}

func TestWhatWasAddedIsTakenAway(t *testing.T) {
	all := someNats(60)
	for _, a := range all {
		for _, b := range all {
			n, e := Sub(Add(a, b), b)
			if wantNat(t, "Sub of Add", n, Trim(a)); e != api.OK {
				t.Error(e)
			}
		}
	}
}

func TestWhatWasMovedUpIsMovedDown(t *testing.T) {
	for _, a := range someNats(20) {
		for _, bits := range []int{0, 1, 2, 31, 63, 64, 65, 127, 128, 1000, api.MaxBits - 1, api.MaxBits} {
			up, e := Up(a, bits)
			if e != api.OK || Check(up) != api.OK {
				t.Fatal(bits, e)
			}
			n, e := Down(up, bits)
			if wantNat(t, "Down of Up", n, Trim(a)); e != api.OK {
				t.Error(bits, e)
			}
		}
	}
}

func TestGreaterStaysGreater(t *testing.T) {
	all := someNats(30)
	for _, a := range all {
		for _, b := range all {
			for _, c := range all {
				if Cmp(Add(a, c), Add(b, c)) != Cmp(a, b) {
					t.Errorf("%v and %v, both with %v", a, b, c)
				}
			}
		}
	}
}

// Rule 4: an answer is new memory, and what is handed in is left alone.

// lent is a list with spare room, and what all of it held.
type lent struct{ list, held api.Nat }

func lend(digits ...uint64) lent {
	room := append(slices.Clone(digits), 91, 92, 93, 94)
	return lent{room[:len(digits)], slices.Clone(room)}
}

func (l lent) touched() bool {
	return !slices.Equal(l.list[:len(l.held)], l.held)
}

func TestAnswersAreNewMemory(t *testing.T) {
	calls := map[string]func(a, b api.Nat) api.Nat{
		"Trim": func(a, b api.Nat) api.Nat { return Trim(a) },
		"Add":  Add,
		"Sub":  func(a, b api.Nat) api.Nat { n, _ := Sub(a, b); return n },
		"Up":   func(a, b api.Nat) api.Nat { n, _ := Up(a, 0); return n },
		"Up64": func(a, b api.Nat) api.Nat { n, _ := Up(a, 64); return n },
		"Down": func(a, b api.Nat) api.Nat { n, _ := Down(a, 0); return n },
		"Dn64": func(a, b api.Nat) api.Nat { n, _ := Down(a, 64); return n },
	}
	for name, call := range calls {
		for _, x := range [][2]lent{
			{lend(9, 9), lend(1)}, {lend(9, 9, 0, 0), lend(1, 0)}, {lend(9), lend()}, {lend(), lend()},
			{lend(0, 0, 1), lend(1)}, {lend(top, top), lend(1)}, {lend(1), lend(2)},
		} {
			n := call(x[0].list, x[1].list)
			if x[0].touched() || x[1].touched() {
				t.Errorf("%s changed what it was handed", name)
			}
			room := n[:cap(n)]
			for i := range room {
				room[i] = 77
			}
			if x[0].touched() || x[1].touched() {
				t.Errorf("%s answered memory that it was handed", name)
			}
		}
	}
	a := lend(5, 0)
	Check(a.list)
	One(a.list)
	Cmp(a.list, a.list)
	Len(a.list)
	if a.touched() {
		t.Error("a call that only looks changed what it was handed")
	}
}

func TestOneListAsBothArguments(t *testing.T) {
	a := lend(top, 5, 0)
	wantNat(t, "Add", Add(a.list, a.list), api.Nat{top - 1, 11})
	n, e := Sub(a.list, a.list)
	if wantNat(t, "Sub", n, nil); e != api.OK || Cmp(a.list, a.list) != 0 || a.touched() {
		t.Error(e, a.list)
	}
}
