package crc

import (
	"bytes"
	"hash/crc32"
	"slices"
	"testing"

	"artesian/api"
)

// sealedSum is the sum of any sealed bytes by Table, as the chapter writes it.
const sealedSum = 558161692

// edges are the lengths about which a sum and what is ahead of it might go wrong.
var edges = []int{0, 1, 2, 3, 4, 5, 6, 7, 8, 9, 12, 15, 16, 17, 31, 32, 33, 63, 64, 65, 255, 256, 257}

// brief tells bytes, of many of them only both ends.
func brief(b []byte) []byte {
	if len(b) > 40 {
		return slices.Concat(b[:20], b[len(b)-20:])
	}
	return b
}

// count tells n bytes that are all unlike as long as there are few: first, first + step ..
func count(n int, first, step byte) []byte {
	b := make([]byte, n)
	for i := range b {
		b[i] = first + byte(i)*step
	}
	return b
}

// other tells a table that is not Table's: the number at that place is another one.
func other(place int) *[256]uint32 {
	t := Table()
	t[place] ^= 0x10305070
	return &t
}

// library tells a table of the library's, of another polynomial than the chapter's.
func library(polynomial uint32) *[256]uint32 {
	t := [256]uint32(*crc32.MakeTable(polynomial))
	return &t
}

// tables tells a pointer that is nil, one to Table's, and ones to tables that are others in one number or in all.
func tables() []*[256]uint32 {
	standard := Table()
	return []*[256]uint32{nil, &standard, other(0), other(1), other(97), other(255), {}, library(crc32.Castagnoli), library(crc32.Koopman)}
}

// shifted tells a number, shifted so often, by the chapter's words for it.
func shifted(n uint32, times int) uint32 {
	for range times {
		odd := n%2 == 1
		n /= 2
		if odd {
			n ^= 0xEDB88320
		}
	}
	return n
}

// plain tells the sum of bytes by the chapter's words for it; a pointer that is nil stands for what they say of the table.
func plain(t *[256]uint32, b []byte) uint32 {
	register := uint64(1<<32 - 1)
	for _, x := range b {
		place := register%256 ^ uint64(x)
		number := shifted(uint32(place), 8)
		if t != nil {
			number = t[place]
		}
		register = register/256 ^ uint64(number)
	}
	return uint32(1<<32 - 1 - register)
}

// sealed tells bytes and their sum behind them, as the chapter says it.
func sealed(t *[256]uint32, b []byte) []byte {
	sum := plain(t, b)
	return append(slices.Clone(b), byte(sum%256), byte(sum/256%256), byte(sum/65536%256), byte(sum/16777216))
}

// wantSum fails if the sum of bytes isn't that.
func wantSum(t *testing.T, table *[256]uint32, b []byte, right uint32) {
	t.Helper()
	if got := Sum(table, b); got != right {
		t.Errorf("Sum of %d bytes, %d: got %d, want %d", len(b), brief(b), got, right)
	}
}

// wantSeal fails if bytes aren't sealed so.
func wantSeal(t *testing.T, table *[256]uint32, b, right []byte) {
	t.Helper()
	if got := Seal(table, b); !bytes.Equal(got, right) {
		t.Errorf("Seal of %d bytes, %d: got %d, want %d", len(b), brief(b), brief(got), brief(right))
	}
}

// wantOpen fails if bytes aren't opened to that.
func wantOpen(t *testing.T, table *[256]uint32, b, right []byte) {
	t.Helper()
	if got, err := Open(table, b); err != api.OK || !bytes.Equal(got, right) {
		t.Errorf("Open of %d bytes, %d: got %d, %v, want %d", len(b), brief(b), brief(got), err, brief(right))
	}
}

// wantRefused fails if bytes aren't refused with that error and no bytes beside it.
func wantRefused(t *testing.T, table *[256]uint32, b []byte, right api.Errno) {
	t.Helper()
	if got, err := Open(table, b); err != right || len(got) != 0 {
		t.Errorf("Open of %d bytes, %d: got %d bytes, %v, want none, %v", len(b), brief(b), len(got), err, right)
	}
}

// The chapter's table of examples

func TestExamples(t *testing.T) {
	wantSum(t, nil, []byte("123456789"), 3421780262)
	wantSum(t, nil, nil, 0)
	if got := Table()[1]; got != 1996959894 {
		t.Errorf("Table()[1]: %d", got)
	}
	wantSeal(t, nil, []byte("a"), []byte{97, 67, 190, 183, 232})
	wantOpen(t, nil, []byte{97, 67, 190, 183, 232}, []byte("a"))
	wantRefused(t, nil, nil, api.ErrShort)
	wantRefused(t, nil, []byte{1, 2, 3, 4}, api.ErrSum)
}

// P9.1

func TestTableOfWrittenNumbers(t *testing.T) {
	table := Table()
	for place, right := range map[int]uint32{
		0: 0, 1: 0x77073096, 2: 0xEE0E612C, 3: 0x990951BA,
		128: 0xEDB88320, 254: 0x5A05DF1B, 255: 0x2D02EF8D,
	} {
		if table[place] != right {
			t.Errorf("Table()[%d]: got %#x, want %#x", place, table[place], right)
		}
	}
}

func TestTableAgreesWithItsWords(t *testing.T) {
	table := Table()
	for place, got := range table {
		if right := shifted(uint32(place), 8); got != right {
			t.Errorf("Table()[%d]: got %#x, want %#x", place, got, right)
		}
	}
	if table != [256]uint32(*crc32.IEEETable) {
		t.Error("Table() is not the library's table")
	}
}

func TestSumOfPublishedSums(t *testing.T) {
	for _, x := range []struct {
		b     []byte
		right uint32
	}{
		{nil, 0}, {[]byte{}, 0}, {[]byte{0}, 0xD202EF8D}, {[]byte{255}, 0xFF000000},
		{[]byte("a"), 0xE8B7BE43}, {[]byte("abc"), 0x352441C2},
		{[]byte("The quick brown fox jumps over the lazy dog"), 0x414FA339},
		{make([]byte, 4), 0x2144DF1C}, {bytes.Repeat([]byte{255}, 4), 0xFFFFFFFF},
		{make([]byte, 32), 0x190A55AD}, {bytes.Repeat([]byte{255}, 32), 0xFF6CAB0B}, {count(32, 0, 1), 0x91267E8A},
	} {
		standard := Table()
		wantSum(t, nil, x.b, x.right)
		wantSum(t, &standard, x.b, x.right)
	}
}

func TestSumOfEachSingleByte(t *testing.T) {
	for _, table := range tables() {
		for x := range 256 {
			wantSum(t, table, []byte{byte(x)}, plain(table, []byte{byte(x)}))
		}
	}
}

func TestSumAtTheEdges(t *testing.T) {
	for _, table := range tables() {
		for _, n := range slices.Concat(edges, []int{1000, 65535, 65536, 200003}) {
			b := count(n, 3, 7)
			wantSum(t, table, b, plain(table, b))
		}
	}
}

func TestSumByOtherTables(t *testing.T) {
	// Of noughts alone the register is shifted away, and its first number is left bit by bit behind few bytes only.
	for n, right := range []uint32{0, 0xFF000000, 0xFFFF0000, 0xFFFFFF00, 0xFFFFFFFF, 0xFFFFFFFF} {
		wantSum(t, &[256]uint32{}, count(n, 5, 9), right)
	}
	wantSum(t, library(crc32.Castagnoli), []byte("123456789"), 0xE3069283)
	// The first byte asks for the number at 255 less itself.
	for x := range 256 {
		place := 255 - x
		if Sum(other(place), []byte{byte(x)}) != Sum(nil, []byte{byte(x)})^0x10305070 {
			t.Errorf("Sum of %d: the table's number at %d is not taken as it is", x, place)
		}
		wantSum(t, other((place+1)%256), []byte{byte(x)}, Sum(nil, []byte{byte(x)}))
	}
}

func TestNilStandsForTable(t *testing.T) {
	standard := Table()
	for _, n := range edges {
		b := count(n, 3, 7)
		wantSum(t, nil, b, Sum(&standard, b))
		wantSeal(t, nil, b, Seal(&standard, b))
		wantOpen(t, nil, Seal(&standard, b), b)
		wantOpen(t, &standard, Seal(nil, b), b)
	}
}

// P9.2

func TestSealAtTheEdges(t *testing.T) {
	for _, table := range tables() {
		for _, n := range slices.Concat(edges, []int{1000, 65535, 65536, 200003}) {
			b := count(n, 3, 7)
			wantSeal(t, table, b, sealed(table, b))
		}
		wantSeal(t, table, nil, []byte{0, 0, 0, 0})
		wantSeal(t, table, []byte{}, []byte{0, 0, 0, 0})
	}
}

func TestOpenAtTheEdges(t *testing.T) {
	for _, table := range tables() {
		for _, n := range slices.Concat(edges, []int{1000, 65535, 65536, 200003}) {
			b := count(n, 3, 7)
			wantOpen(t, table, sealed(table, b), b)
		}
		wantOpen(t, table, []byte{0, 0, 0, 0}, nil)
	}
}

func TestOpenRefusesFewerThanFour(t *testing.T) {
	for _, table := range tables() {
		for n := range 4 {
			wantRefused(t, table, make([]byte, n), api.ErrShort)
			wantRefused(t, table, count(n, 255, 0), api.ErrShort)
			wantRefused(t, table, Seal(table, nil)[:n], api.ErrShort)
			wantRefused(t, table, Seal(table, []byte("a"))[:n], api.ErrShort)
		}
		wantRefused(t, table, nil, api.ErrShort)
	}
}

func TestOpenRefusesFourThatAreNoSumOfNone(t *testing.T) {
	for _, table := range tables() {
		for place := range 4 {
			for x := 1; x < 256; x++ {
				b := make([]byte, 4)
				b[place] = byte(x)
				wantRefused(t, table, b, api.ErrSum)
			}
		}
		wantRefused(t, table, []byte{255, 255, 255, 255}, api.ErrSum)
	}
}

func TestOpenRefusesOtherSums(t *testing.T) {
	for _, table := range tables() {
		for _, n := range edges {
			b := count(n, 3, 7)
			whole := sealed(table, b)
			for place := range whole {
				wrong := slices.Clone(whole)
				wrong[place] ^= 0x81
				if !bytes.Equal(wrong, sealed(table, wrong[:n])) {
					wantRefused(t, table, wrong, api.ErrSum)
				}
			}
			turned := slices.Clone(whole)
			slices.Reverse(turned[n:])
			if !bytes.Equal(turned, whole) {
				wantRefused(t, table, turned, api.ErrSum)
			}
			ahead := slices.Concat(whole[n:], b)
			if !bytes.Equal(ahead, sealed(table, ahead[:n])) {
				wantRefused(t, table, ahead, api.ErrSum)
			}
		}
	}
}

func TestOpenRefusesWhatIsCutOrLengthened(t *testing.T) {
	for _, n := range edges[1:] {
		whole := Seal(nil, count(n, 3, 7))
		wantRefused(t, nil, whole[1:], api.ErrSum)
		wantRefused(t, nil, whole[:len(whole)-1], api.ErrSum)
		wantRefused(t, nil, append(slices.Clone(whole), 0), api.ErrSum)
		wantRefused(t, nil, append([]byte{0}, whole...), api.ErrSum)
	}
}

func TestOpenByAnotherTable(t *testing.T) {
	for _, table := range tables() {
		for _, another := range tables() {
			for _, n := range edges {
				b := count(n, 3, 7)
				whole := sealed(table, b)
				if plain(table, b) == plain(another, b) {
					wantOpen(t, another, whole, b)
				} else {
					wantRefused(t, another, whole, api.ErrSum)
				}
			}
		}
	}
}

func TestOpenLooksNoFurtherThanTheEnd(t *testing.T) {
	for _, n := range edges {
		b := count(n, 3, 7)
		whole := append(Seal(nil, b), 1, 1, 1)
		wantOpen(t, nil, whole[:n+4], b)
		if n > 0 {
			wantRefused(t, nil, Seal(nil, b)[:n+3], api.ErrSum)
		}
	}
}
