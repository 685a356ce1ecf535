package xors

import (
	"bytes"
	"crypto/subtle"
	"math/rand/v2"
	"slices"
	"testing"

	"artesian/api"
)

// behind is what stands in the spare room of what is handed in, and must be found there again.
const behind = 0x5a

// lend tells bytes with spare room behind them that is filled.
func lend(b []byte) []byte {
	whole := append(slices.Clone(b), bytes.Repeat([]byte{behind}, 24)...)
	return whole[:len(b)]
}

// touched tells whether what was lent, or its spare room, is no longer what it was.
func touched(lent, was []byte) bool {
	whole := lent[:len(lent)+24]
	return !bytes.Equal(whole[:len(lent)], was) || !bytes.Equal(whole[len(lent):], bytes.Repeat([]byte{behind}, 24))
}

// scribble writes over bytes, and over their spare room.
func scribble(b []byte) {
	for i := range b[:cap(b)] {
		b[:cap(b)][i] = 0xee
	}
}

// someBytes tells bytes, always the same ones for the same source, of few different values so that noughts and like bytes are often among them.
func someBytes(r *rand.Rand, n int) []byte {
	b := make([]byte, n)
	for i := range b {
		b[i] = byte(r.IntN([]int{2, 4, 256, 256}[r.IntN(4)]))
	}
	return b
}

// someLists tells lists of bytes of one length each, always the same ones.
func someLists(count int) [][][]byte {
	r := rand.New(rand.NewPCG(81, 82))
	var all [][][]byte
	for range count {
		n := r.IntN([]int{3, 20, 70, 700}[r.IntN(4)])
		l := make([][]byte, r.IntN(9))
		for i := range l {
			l[i] = someBytes(r, n)
		}
		all = append(all, l)
	}
	return all
}

// width tells how many bytes each of a list has.
func width(l [][]byte) int {
	if len(l) == 0 {
		return 11
	}
	return len(l[0])
}

// xor tells Xor where it refuses nothing.
func xor(t *testing.T, a, b []byte) []byte {
	t.Helper()
	got, err := Xor(a, b)
	if err != api.OK {
		t.Fatalf("Xor of %d bytes and %d: %v", len(a), len(b), err)
	}
	return got
}

// all tells All where it refuses nothing.
func all(t *testing.T, n int, l ...[]byte) []byte {
	t.Helper()
	got, err := All(n, l...)
	if err != api.OK {
		t.Fatalf("All of %d bytes: %v", n, err)
	}
	return got
}

// P8.1 and P8.2, against the library

func TestSumsAgreeWithLibrary(t *testing.T) {
	for _, l := range someLists(1500) {
		n := width(l)
		sum := make([]byte, n)
		for _, b := range l {
			right := make([]byte, n)
			subtle.XORBytes(right, sum, b)
			wantXor(t, sum, b, right)
			sum = right
		}
		wantAll(t, sum, n, l...)
	}
}

// P8.4

func TestSumsHangOnNoOrder(t *testing.T) {
	r := rand.New(rand.NewPCG(83, 84))
	for _, l := range someLists(400) {
		n := width(l)
		right := all(t, n, l...)
		for range 4 {
			r.Shuffle(len(l), func(i, j int) { l[i], l[j] = l[j], l[i] })
			wantAll(t, right, n, l...)
		}
		for cut := range len(l) + 1 {
			wantXor(t, all(t, n, l[:cut]...), all(t, n, l[cut:]...), right)
		}
	}
}

func TestWhatIsAddedTwiceIsAwayAgain(t *testing.T) {
	for _, l := range someLists(400) {
		n := width(l)
		wantAll(t, make([]byte, n), n, slices.Concat(l, l)...)
		for i, a := range l {
			for _, b := range l[:i] {
				wantXor(t, xor(t, a, b), b, a)
				in := slices.Clone(a)
				Into(in, b)
				err := Into(in, b)
				want(t, "Into twice", in, err, a)
			}
		}
	}
}

func TestNoughtsAddNothing(t *testing.T) {
	for _, l := range someLists(400) {
		n := width(l)
		noughts := make([]byte, n)
		for _, b := range l {
			wantXor(t, b, noughts, b)
			wantXor(t, noughts, b, b)
		}
		wantAll(t, all(t, n, l...), n, append(slices.Clone(l), noughts)...)
		wantAll(t, all(t, n, l...), n, append([][]byte{noughts}, l...)...)
	}
}

func TestTwoAreTheSameJustIfTheirSumIsNoughts(t *testing.T) {
	for _, l := range someLists(400) {
		for _, a := range l {
			wantZero(t, xor(t, a, slices.Clone(a)), true)
			for _, b := range l {
				wantZero(t, xor(t, a, b), bytes.Equal(a, b))
			}
			for i := range a {
				b := slices.Clone(a)
				b[i] ^= 1 << (i % 8)
				wantZero(t, xor(t, a, b), false)
			}
		}
	}
}

func TestNoughtsBehindStayNoughts(t *testing.T) {
	for _, l := range someLists(400) {
		n := width(l)
		padded := make([][]byte, len(l))
		for i, b := range l {
			padded[i], _ = Pad(b, n+9)
		}
		wantPad(t, all(t, n, l...), n+9, all(t, n+9, padded...))
	}
}

// Rule 4: an answer is new memory, and what was handed in stays as it was

func TestXorTouchesNothing(t *testing.T) {
	for _, n := range edges {
		a, b := count(n, 3, 7), count(n, 201, 91)
		lentA, lentB := lend(a), lend(b)
		got := xor(t, lentA, lentB)
		scribble(got)
		if touched(lentA, a) || touched(lentB, b) {
			t.Errorf("Xor of %d bytes changed or handed out what it was given", n)
		}
		got = xor(t, lentA, lentB)
		scribble(lentA)
		scribble(lentB)
		want(t, "Xor, when its arguments have changed", got, api.OK, bitByBit(a, b))
	}
}

func TestIntoTouchesItsFirstAlone(t *testing.T) {
	for _, n := range edges {
		a, b := count(n, 3, 7), count(n, 201, 91)
		lentA, lentB := lend(a), lend(b)
		if err := Into(lentA, lentB); err != api.OK || touched(lentA, bitByBit(a, b)) || touched(lentB, b) {
			t.Errorf("Into of %d bytes: %v, %d, %d", n, err, lentA, lentB)
		}
		scribble(lentB)
		if touched(lentA, bitByBit(a, b)) {
			t.Errorf("Into of %d bytes kept its second", n)
		}
		lentA, lentB = lend(a), lend(append(b, 1))
		if err := Into(lentA, lentB); err != api.ErrArg || touched(lentA, a) || touched(lentB, append(b, 1)) {
			t.Errorf("Into of %d bytes and one more: %v, %d, %d", n, err, lentA, lentB)
		}
	}
}

func TestIntoTouchesNothingAhead(t *testing.T) {
	for _, n := range edges {
		whole := count(n+40, 3, 7)
		right := slices.Clone(whole)
		b := count(n, 201, 91)
		copy(right[20:], bitByBit(whole[20:20+n], b))
		err := Into(whole[20:20+n], b)
		want(t, "Into, and what is about it", whole, err, right)
	}
}

func TestAllTouchesNothing(t *testing.T) {
	for _, n := range edges {
		for many := range 4 {
			var l, was [][]byte
			right := make([]byte, n)
			for i := range many {
				b := count(n, byte(i)*31, byte(i)*58+1)
				right = bitByBit(right, b)
				was, l = append(was, b), append(l, lend(b))
			}
			scribble(all(t, n, l...))
			for i := range l {
				if touched(l[i], was[i]) {
					t.Errorf("All of %d times %d bytes changed or handed out what it was given", many, n)
				}
			}
			got := all(t, n, l...)
			for i := range l {
				scribble(l[i])
				l[i] = nil
			}
			want(t, "All, when its arguments have changed", got, api.OK, right)
		}
	}
}

func TestPadTouchesNothing(t *testing.T) {
	for _, n := range edges {
		for _, more := range []int{0, 1, 8, 20} {
			b := count(n, 1, 3)
			lent := lend(b)
			got, _ := Pad(lent, n+more)
			scribble(got)
			Pad(lent, n-1)
			if touched(lent, b) {
				t.Errorf("Pad of %d bytes by %d changed or handed out what it was given", n, more)
			}
			got, err := Pad(lent, n+more)
			scribble(lent)
			want(t, "Pad, when its argument has changed", got, err, append(b, make([]byte, more)...))
		}
	}
}

func TestZeroTouchesNothing(t *testing.T) {
	for _, n := range edges {
		lent := lend(make([]byte, n))
		if !Zero(lent) || touched(lent, make([]byte, n)) {
			t.Errorf("Zero of %d bytes", n)
		}
		b := count(n, 1, 3)
		lent = lend(b)
		if Zero(lent) != (n == 0) || touched(lent, b) {
			t.Errorf("Zero of %d bytes, not noughts", n)
		}
	}
}
