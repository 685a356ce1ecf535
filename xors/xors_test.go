package xors

import (
	"bytes"
	"math"
	"slices"
	"testing"

	"artesian/api"
)

// mostBytes is how many bytes a symbol has at most, as the chapter writes it.
const mostBytes = 65535

// edges are the lengths about which the eights and their tail might go wrong.
var edges = []int{0, 1, 2, 6, 7, 8, 9, 10, 14, 15, 16, 17, 23, 24, 25, 31, 32, 33, 63, 64, 65}

// brief tells bytes, of many of them only both ends.
func brief(b []byte) []byte {
	if len(b) > 40 {
		return slices.Concat(b[:20], b[len(b)-20:])
	}
	return b
}

// want fails if a call's answer isn't these bytes.
func want(t *testing.T, call string, got []byte, err api.Errno, right []byte) {
	t.Helper()
	if err != api.OK || !bytes.Equal(got, right) {
		t.Errorf("%s: got %d bytes, %d, %v, want %d, %d", call, len(got), brief(got), err, len(right), brief(right))
	}
}

// wantRefused fails if a call didn't answer that error and no bytes beside it.
func wantRefused(t *testing.T, call string, got []byte, err, right api.Errno) {
	t.Helper()
	if err != right || len(got) != 0 {
		t.Errorf("%s: got %d bytes, %v, want none, %v", call, len(got), err, right)
	}
}

// wantXor fails if the sum of two isn't that, told as well as put in place.
func wantXor(t *testing.T, a, b, right []byte) {
	t.Helper()
	got, err := Xor(a, b)
	want(t, "Xor", got, err, right)
	in := slices.Clone(a)
	err = Into(in, b)
	want(t, "Into", in, err, right)
}

// wantUnlike fails if two of unlike lengths are added, or anything is changed by the trial.
func wantUnlike(t *testing.T, a, b []byte) {
	t.Helper()
	got, err := Xor(a, b)
	wantRefused(t, "Xor", got, err, api.ErrArg)
	in, other := slices.Clone(a), slices.Clone(b)
	if err := Into(in, other); err != api.ErrArg || !bytes.Equal(in, a) || !bytes.Equal(other, b) {
		t.Errorf("Into of %d bytes and %d: %v, %d, %d", len(a), len(b), err, brief(in), brief(other))
	}
}

// wantAll fails if the sum of some of n bytes each isn't that.
func wantAll(t *testing.T, right []byte, n int, l ...[]byte) {
	t.Helper()
	got, err := All(n, l...)
	want(t, "All", got, err, right)
}

// wantPad fails if bytes aren't made n of them in that way.
func wantPad(t *testing.T, b []byte, n int, right []byte) {
	t.Helper()
	got, err := Pad(b, n)
	want(t, "Pad", got, err, right)
}

// wantZero fails if bytes are noughts alone and that isn't told, or the other way about.
func wantZero(t *testing.T, b []byte, right bool) {
	t.Helper()
	if got := Zero(b); got != right {
		t.Errorf("Zero of %d bytes, %d: %v", len(b), brief(b), got)
	}
}

// count tells n bytes that are all unlike as long as there are few: first, first + step ..
func count(n int, first, step byte) []byte {
	b := make([]byte, n)
	for i := range b {
		b[i] = first + byte(i)*step
	}
	return b
}

// bitByBit tells the sum of two of one length by the chapter's word for it: a bit is 1 where just one of both has it.
func bitByBit(a, b []byte) []byte {
	sum := make([]byte, len(a))
	for i := range sum {
		for bit := byte(1); bit != 0; bit <<= 1 {
			if (a[i]&bit != 0) != (b[i]&bit != 0) {
				sum[i] |= bit
			}
		}
	}
	return sum
}

// The chapter's table of examples

func TestExamples(t *testing.T) {
	wantXor(t, []byte{1, 2, 3}, []byte{3, 2, 1}, []byte{2, 0, 2})
	wantUnlike(t, []byte{1}, []byte{1, 2})
	wantXor(t, nil, nil, nil)

	wantAll(t, []byte{4, 6}, 2, []byte{1, 2}, []byte{4, 4}, []byte{1, 0})
	wantAll(t, []byte{0, 0, 0}, 3)
	got, err := All(1, []byte{1, 2})
	wantRefused(t, "All(1, 1 2)", got, err, api.ErrArg)
	got, err = All(65536)
	wantRefused(t, "All(65,536)", got, err, api.ErrRange)

	wantPad(t, []byte{7}, 3, []byte{7, 0, 0})
	got, err = Pad([]byte{7, 8}, 1)
	wantRefused(t, "Pad(7 8, 1)", got, err, api.ErrLong)
	wantZero(t, []byte{0, 0}, true)
	wantZero(t, []byte{0, 1}, false)
	wantZero(t, nil, true)
}

// P8.1

func TestXorOfWrittenSums(t *testing.T) {
	for _, x := range []struct{ a, b, right []byte }{
		{nil, []byte{}, nil}, {[]byte{}, nil, []byte{}}, {[]byte{}, []byte{}, nil},
		{[]byte{0x0f}, []byte{0xf0}, []byte{0xff}}, {[]byte{0xff}, []byte{0xff}, []byte{0}}, {[]byte{0xa5}, []byte{0}, []byte{0xa5}}, {[]byte{255}, []byte{1}, []byte{254}},
		{[]byte{1, 2, 3, 4, 5, 6, 7}, []byte{7, 6, 5, 4, 3, 2, 1}, []byte{6, 4, 6, 0, 6, 4, 6}},
		{[]byte{1, 2, 3, 4, 5, 6, 7, 8}, []byte{16, 32, 48, 64, 80, 96, 112, 128}, []byte{17, 34, 51, 68, 85, 102, 119, 136}},
		{[]byte{1, 2, 3, 4, 5, 6, 7, 8, 9}, []byte{255, 0, 255, 0, 255, 0, 255, 0, 255}, []byte{254, 2, 252, 4, 250, 6, 248, 8, 246}},
		{[]byte("fifteen letters"), []byte("FIFTEEN LETTERS"), slices.Concat(bytes.Repeat([]byte{32}, 7), []byte{0}, bytes.Repeat([]byte{32}, 7))},
	} {
		wantXor(t, x.a, x.b, x.right)
		wantXor(t, x.b, x.a, x.right)
	}
}

func TestXorAtTheEdges(t *testing.T) {
	for _, n := range slices.Concat(edges, []int{1000, mostBytes - 1, mostBytes, mostBytes + 1, mostBytes + 2, 200003}) {
		a, b := count(n, 3, 7), count(n, 201, 91)
		wantXor(t, a, b, bitByBit(a, b))
	}
}

func TestXorAddsEachByteInItsPlace(t *testing.T) {
	for _, n := range edges {
		for i := range n {
			a, b, right := count(n, 3, 7), make([]byte, n), count(n, 3, 7)
			b[i] = 0x81
			right[i] ^= 0x81
			wantXor(t, a, b, right)
			wantXor(t, b, a, right)
		}
	}
}

func TestXorRefusesUnlikeLengths(t *testing.T) {
	for _, n := range edges {
		for _, more := range []int{1, 7, 8, 9, 16, mostBytes} {
			wantUnlike(t, count(n, 3, 7), count(n+more, 201, 91))
			wantUnlike(t, count(n+more, 201, 91), count(n, 3, 7))
		}
	}
	wantUnlike(t, nil, []byte{0})
	wantUnlike(t, []byte{0}, nil)
}

func TestIntoItself(t *testing.T) {
	for _, n := range edges {
		a := count(n, 3, 7)
		err := Into(a, a)
		want(t, "Into", a, err, make([]byte, n))
	}
}

func TestIntoAddsWhatWasHandedIn(t *testing.T) {
	// Both lie over each other, a ahead of b or behind it: what is already changed must not be added.
	for _, n := range edges {
		for from := range 20 {
			for _, starts := range [][2]int{{0, from}, {from, 0}} {
				whole := count(n+from, 3, 7)
				right := slices.Clone(whole)
				copy(right[starts[0]:], bitByBit(whole[starts[0]:starts[0]+n], whole[starts[1]:starts[1]+n]))
				err := Into(whole[starts[0]:starts[0]+n], whole[starts[1]:starts[1]+n])
				want(t, "Into", whole, err, right)
			}
		}
	}
}

// P8.2

func TestAllOfNone(t *testing.T) {
	for _, n := range slices.Concat(edges, []int{1000, mostBytes - 1, mostBytes}) {
		wantAll(t, make([]byte, n), n)
		wantAll(t, make([]byte, n), n, [][]byte{}...)
	}
}

func TestAllAtTheEdges(t *testing.T) {
	for _, n := range slices.Concat(edges, []int{1000, mostBytes - 1, mostBytes}) {
		var l [][]byte
		right := make([]byte, n)
		for i := range 9 {
			wantAll(t, right, n, l...)
			l = append(l, count(n, byte(i)*31, byte(i)*58+1))
			right = bitByBit(right, l[i])
		}
		wantAll(t, right, n, l...)
	}
	wantAll(t, nil, 0, nil, []byte{}, nil)
	wantAll(t, []byte{1}, 1, slices.Repeat([][]byte{{1}}, 100001)...)
	wantAll(t, []byte{0}, 1, slices.Repeat([][]byte{{1}}, 100000)...)
}

func TestAllRefusesN(t *testing.T) {
	for _, n := range []int{-1, -2, -8, -mostBytes, math.MinInt, mostBytes + 1, mostBytes + 2, 1 << 24, 1 << 32, math.MaxInt} {
		for _, l := range [][][]byte{nil, {nil}, {{1}}, {{1}, {1, 2}}, {make([]byte, mostBytes+1)}, {make([]byte, mostBytes)}} {
			got, err := All(n, l...)
			wantRefused(t, "All", got, err, api.ErrRange)
		}
	}
}

func TestAllRefusesOneOfAnotherLength(t *testing.T) {
	for _, n := range slices.Concat(edges, []int{mostBytes}) {
		for _, other := range []int{0, 1, n - 8, n - 1, n + 1, n + 8, 2 * n, mostBytes + 1} {
			if other < 0 || other == n {
				continue
			}
			for place := range 4 {
				l := slices.Repeat([][]byte{count(n, 3, 7)}, 4)
				l[place] = count(other, 3, 7)
				got, err := All(n, l...)
				wantRefused(t, "All", got, err, api.ErrArg)
			}
			got, err := All(n, make([]byte, other))
			wantRefused(t, "All", got, err, api.ErrArg)
		}
	}
	// Two wrong lengths that make up for each other are wrong, too.
	got, err := All(2, []byte{1}, []byte{1, 2, 3})
	wantRefused(t, "All(2, 1, 1 2 3)", got, err, api.ErrArg)
	got, err = All(1, nil)
	wantRefused(t, "All(1, none)", got, err, api.ErrArg)
}

// P8.3

func TestPadAtTheEdges(t *testing.T) {
	for _, n := range slices.Concat(edges, []int{1000, mostBytes - 1, mostBytes}) {
		for _, some := range []int{0, 1, 7, 8, 9, 15, 16, 17, n / 2, n - 1, n} {
			if some >= 0 && some <= n {
				b := count(some, 1, 3)
				wantPad(t, b, n, append(slices.Clone(b), make([]byte, n-some)...))
			}
		}
		wantPad(t, nil, n, make([]byte, n))
	}
	wantPad(t, []byte{0, 0}, 2, []byte{0, 0})
	wantPad(t, []byte{}, 0, nil)
}

func TestPadRefusesN(t *testing.T) {
	for _, n := range []int{-1, -2, -8, -mostBytes, math.MinInt, mostBytes + 1, mostBytes + 2, 1 << 24, 1 << 32, math.MaxInt} {
		// Where more bytes are given than n, too, the range is told first.
		for _, some := range []int{0, 1, 2, mostBytes, mostBytes + 1, mostBytes + 2, mostBytes + 3} {
			got, err := Pad(make([]byte, some), n)
			wantRefused(t, "Pad", got, err, api.ErrRange)
		}
	}
}

func TestPadRefusesMoreBytes(t *testing.T) {
	for _, n := range slices.Concat(edges, []int{mostBytes - 1, mostBytes}) {
		for _, more := range []int{1, 2, 8, mostBytes} {
			got, err := Pad(make([]byte, n+more), n)
			wantRefused(t, "Pad", got, err, api.ErrLong)
		}
	}
}

func TestZeroFindsASingleOne(t *testing.T) {
	for _, n := range edges {
		b := make([]byte, n)
		wantZero(t, b, true)
		for i := range b {
			for bit := byte(1); bit != 0; bit <<= 1 {
				b[i] = bit
				wantZero(t, b, false)
			}
			b[i] = 0
		}
		wantZero(t, b, true)
		wantZero(t, bytes.Repeat([]byte{255}, n), n == 0)
	}
	long := make([]byte, 200003)
	wantZero(t, long, true)
	for _, i := range []int{0, 1, mostBytes, 200001, 200002} {
		long[i] = 1
		wantZero(t, long, false)
		long[i] = 0
	}
	wantZero(t, []byte{}, true)
	// Two bytes that add to nothing aren't noughts.
	wantZero(t, []byte{9, 9}, false)
	wantZero(t, []byte{255, 1}, false)
}

func TestZeroLooksNoFurtherThanTheEnd(t *testing.T) {
	for _, n := range edges {
		whole := append(make([]byte, n), 1, 1, 1)
		wantZero(t, whole[:n], true)
	}
}
