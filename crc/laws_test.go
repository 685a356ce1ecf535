package crc

import (
	"bytes"
	"hash/crc32"
	"math/rand/v2"
	"slices"
	"testing"

	"artesian/api"
)

// behind is what stands in the spare room of what is handed in, and must be found there again.
const behind = 0x5a

// lend tells bytes with spare room behind them that is filled.
func lend(b []byte) []byte {
	whole := append(slices.Clone(b), bytes.Repeat([]byte{behind}, 24)...)
	return whole[:len(b)]
}

// touched tells whether what was lent, or its spare room, is no longer what it was.
func touched(lent, was []byte) bool {
	whole := lent[:len(lent)+24]
	return !bytes.Equal(whole[:len(lent)], was) || !bytes.Equal(whole[len(lent):], bytes.Repeat([]byte{behind}, 24))
}

// scribble writes over bytes, and over their spare room.
func scribble(b []byte) {
	for i := range b[:cap(b)] {
		b[:cap(b)][i] = 0xee
	}
}

// someBytes tells bytes, always the same ones for the same source.
func someBytes(r *rand.Rand, n int) []byte {
	b := make([]byte, n)
	for i := range b {
		b[i] = byte(r.IntN([]int{2, 256, 256}[r.IntN(3)]))
	}
	return b
}

// turn tells bytes of which some bits are turned, of each byte the lowest first: the bit at from and those behind it, where the pattern has a 1.
func turn(b []byte, from int, pattern uint64) []byte {
	turned := slices.Clone(b)
	for i := range 64 {
		if pattern>>i&1 == 1 {
			turned[(from+i)/8] ^= 1 << ((from + i) % 8)
		}
	}
	return turned
}

// exclusive tells the exclusive or of three lists of one length, byte by byte.
func exclusive(a, b, c []byte) []byte {
	x := make([]byte, len(a))
	for i := range x {
		x[i] = a[i] ^ b[i] ^ c[i]
	}
	return x
}

// P9.1, against the library

func TestSumAgreesWithLibrary(t *testing.T) {
	r := rand.New(rand.NewPCG(91, 92))
	castagnoli := crc32.MakeTable(crc32.Castagnoli)
	for range 2000 {
		b := someBytes(r, r.IntN([]int{5, 40, 3000}[r.IntN(3)]))
		wantSum(t, nil, b, crc32.ChecksumIEEE(b))
		wantSum(t, library(crc32.Castagnoli), b, crc32.Checksum(b, castagnoli))
	}
}

func TestSumByTablesOfAnyNumbers(t *testing.T) {
	r := rand.New(rand.NewPCG(93, 94))
	for range 200 {
		var table [256]uint32
		for i := range table {
			table[i] = r.Uint32()
		}
		b := someBytes(r, r.IntN(400))
		wantSum(t, &table, b, plain(&table, b))
		wantSeal(t, &table, b, sealed(&table, b))
		wantOpen(t, &table, sealed(&table, b), b)
	}
}

// P9.3

func TestWhatIsSealedIsOpened(t *testing.T) {
	r := rand.New(rand.NewPCG(95, 96))
	for _, table := range tables() {
		for _, n := range slices.Concat(edges, []int{65535, 65536}) {
			b := someBytes(r, n)
			wantOpen(t, table, Seal(table, b), b)
			// What is sealed twice is opened twice.
			wantOpen(t, table, Seal(table, Seal(table, b)), Seal(table, b))
		}
	}
}

func TestSingleBitTurned(t *testing.T) {
	r := rand.New(rand.NewPCG(97, 98))
	for _, n := range edges {
		whole := Seal(nil, someBytes(r, n))
		for from := range len(whole) * 8 {
			wantRefused(t, nil, turn(whole, from, 1), api.ErrSum)
		}
	}
}

func TestBitsTurnedWithin32InARow(t *testing.T) {
	r := rand.New(rand.NewPCG(99, 100))
	standard := Table()
	for _, n := range []int{0, 1, 2, 3, 4, 5, 8, 33, 100} {
		whole := Seal(nil, someBytes(r, n))
		for from := range len(whole) * 8 {
			// The last ones end where the sealed bytes end.
			for row := 2; row <= min(32, len(whole)*8-from); row++ {
				all, ends := uint64(1)<<row-1, uint64(1)<<(row-1)|1
				for _, pattern := range []uint64{all, ends, ends | r.Uint64()&all} {
					wantRefused(t, &standard, turn(whole, from, pattern), api.ErrSum)
				}
			}
		}
	}
}

func TestTurnedAtBothEnds(t *testing.T) {
	for _, n := range edges {
		whole := Seal(nil, count(n, 3, 7))
		last := len(whole) * 8
		for _, x := range []struct {
			from    int
			pattern uint64
		}{{0, 1}, {last - 1, 1}, {0, 1<<32 - 1}, {last - 32, 1<<32 - 1}, {0, 1<<31 | 1}, {last - 32, 1<<31 | 1}} {
			wantRefused(t, nil, turn(whole, x.from, x.pattern), api.ErrSum)
			wantOpen(t, nil, turn(turn(whole, x.from, x.pattern), x.from, x.pattern), count(n, 3, 7))
		}
	}
}

func TestBitsTurnedWithin33InARowMayBeSealedAgain(t *testing.T) {
	// The polynomial itself, the power 32 ahead of the others, changes the sum as it changes the bytes: nothing but what Seal tells may be asked.
	const itself = 0xEDB88320<<1 | 1
	for _, n := range edges[1:] {
		whole := Seal(nil, count(n, 3, 7))
		for from := range n*8 - 1 {
			turned := turn(whole, from, itself)
			wantSeal(t, nil, turned[:n], turned)
			wantOpen(t, nil, turned, turned[:n])
		}
	}
}

func TestSumOfAnySealedBytes(t *testing.T) {
	r := rand.New(rand.NewPCG(101, 102))
	standard := Table()
	for _, n := range slices.Concat(edges, []int{1000, 65535}) {
		for range 20 {
			b := someBytes(r, n)
			wantSum(t, nil, Seal(nil, b), sealedSum)
			wantSum(t, &standard, Seal(&standard, b), sealedSum)
		}
	}
	wantSum(t, nil, []byte{0, 0, 0, 0}, sealedSum)
	// Bytes that have this sum are sealed ones, too.
	wantOpen(t, nil, []byte{97, 67, 190, 183, 232}, []byte("a"))
}

// P9.4

func TestSumOfTheExclusiveOrOfThree(t *testing.T) {
	r := rand.New(rand.NewPCG(103, 104))
	for _, table := range []*[256]uint32{nil, library(crc32.IEEE), library(crc32.Castagnoli)} {
		for _, n := range slices.Concat(edges, []int{1000, 65535}) {
			for range 10 {
				a, b, c := someBytes(r, n), someBytes(r, n), someBytes(r, n)
				wantSum(t, table, exclusive(a, b, c), Sum(table, a)^Sum(table, b)^Sum(table, c))
				wantSum(t, table, exclusive(a, a, c), Sum(table, c))
				wantSeal(t, table, exclusive(a, b, c), exclusive(Seal(table, a), Seal(table, b), Seal(table, c)))
			}
		}
	}
}

// Rule 4: an answer is new memory, and what was handed in stays as it was

func TestTableIsNewEachTime(t *testing.T) {
	right := Table()
	changed := Table()
	for i := range changed {
		changed[i] = 7
	}
	if Table() != right {
		t.Error("a table that was told was changed, and so is what Table tells")
	}
	wantSum(t, &changed, []byte("123456789"), plain(&changed, []byte("123456789")))
	// What a table said is not kept.
	wantSum(t, nil, []byte("123456789"), 3421780262)
	wantSum(t, &right, []byte("123456789"), 3421780262)
	changed = right
	wantSum(t, &changed, []byte("123456789"), 3421780262)
}

func TestNoTableIsChanged(t *testing.T) {
	was := tables()
	for i, table := range tables() {
		for _, n := range edges {
			b := count(n, 3, 7)
			Sum(table, b)
			Open(table, Seal(table, b))
			Open(table, b)
			if table != nil && *table != *was[i] {
				t.Fatalf("a table handed in with %d bytes was changed", n)
			}
		}
	}
}

func TestSumTouchesNothing(t *testing.T) {
	for _, table := range tables() {
		for _, n := range edges {
			b := count(n, 3, 7)
			lent := lend(b)
			wantSum(t, table, lent, plain(table, b))
			if touched(lent, b) {
				t.Errorf("Sum of %d bytes changed them", n)
			}
		}
	}
}

func TestSealTouchesNothing(t *testing.T) {
	for _, table := range tables() {
		for _, n := range edges {
			b := count(n, 3, 7)
			lent := lend(b)
			scribble(Seal(table, lent))
			if touched(lent, b) {
				t.Errorf("Seal of %d bytes changed or handed out what it was given", n)
			}
			got := Seal(table, lent)
			scribble(lent)
			if !bytes.Equal(got, sealed(table, b)) {
				t.Errorf("Seal of %d bytes kept what it was given", n)
			}
		}
	}
}

func TestOpenTouchesNothing(t *testing.T) {
	for _, table := range tables() {
		for _, n := range edges {
			b := count(n, 3, 7)
			whole := sealed(table, b)
			lent := lend(whole)
			opened, _ := Open(table, lent)
			scribble(opened)
			if touched(lent, whole) {
				t.Errorf("Open of %d bytes changed or handed out what it was given", n+4)
			}
			opened, err := Open(table, lent)
			scribble(lent)
			if err != api.OK || !bytes.Equal(opened, b) {
				t.Errorf("Open of %d bytes kept what it was given", n+4)
			}
		}
	}
}

func TestOpenTouchesNothingThatItRefuses(t *testing.T) {
	for _, table := range tables() {
		for _, n := range edges {
			wrong := append(sealed(table, count(n, 3, 7)), 1)
			for _, b := range [][]byte{wrong, wrong[:min(3, n)]} {
				lent := lend(b)
				opened, err := Open(table, lent)
				scribble(opened)
				if err == api.OK || touched(lent, b) {
					t.Errorf("Open of %d bytes: %v, or changed or handed out what it was given", len(b), err)
				}
			}
		}
	}
}
