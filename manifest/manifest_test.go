package manifest

import (
	"bytes"
	"encoding/binary"
	"math"
	"slices"
	"testing"

	"artesian/api"
)

// The greatest that there may be of each thing, as the chapter writes them.
const (
	mostSize   = 4294967295
	mostSymbol = 65535
	mostK      = 65536
	mostTable  = 10000
	mostWeight = 16777215
)

// sizes, symbols, ks, seeds and weights are numbers about the ends of what each of these may be, and the ends of all.
var (
	sizes   = []int{math.MinInt, -mostSize, -1, 0, 1, 65536, mostSize - 1, mostSize, mostSize + 1, 1 << 40, math.MaxInt}
	symbols = []int{math.MinInt, -2, -1, 0, 1, 2, 255, 256, mostSymbol - 1, mostSymbol, mostSymbol + 1, 65538, 1<<32 + 1, math.MaxInt}
	ks      = []int{math.MinInt, -2, -1, 0, 1, 2, 3, 255, 256, mostK - 1, mostK, mostK + 1, mostK + 2, 1<<32 + 2, math.MaxInt}
	seeds   = []int{math.MinInt, -1 << 32, -2, -1, 0, 1, 1 << 32, 1 << 62, math.MaxInt - 1, math.MaxInt}
	weights = []int{math.MinInt, -mostWeight, -2, -1, 0, 1, 2, mostWeight - 1, mostWeight, mostWeight + 1, 1<<32 - 1, 1 << 32, 1<<32 + 1, math.MaxInt}
)

// table tells n weights: first, first + 1 ..
func table(n, first int) []int {
	all := make([]int, n)
	for i := range all {
		all[i] = first + i
	}
	return all
}

// may tells whether a manifest may be, by the chapter's words.
func may(m api.Manifest) bool {
	if m.Size < 0 || m.Size > mostSize || m.Symbol < 1 || m.Symbol > mostSymbol || m.K < 1 || m.K > mostK || m.Seed < 0 {
		return false
	}
	if len(m.Table) < 1 || len(m.Table) > m.K || len(m.Table) > mostTable {
		return false
	}
	for _, weight := range m.Table {
		if weight < 0 || weight > mostWeight {
			return false
		}
	}
	return slices.ContainsFunc(m.Table, func(weight int) bool { return weight != 0 })
}

// laid tells a manifest's bytes, by the library; of numbers that don't fit, their lowest bytes.
func laid(m api.Manifest) []byte {
	return told(m, len(m.Table))
}

// told tells the bytes of a manifest that says to have so many weights.
func told(m api.Manifest, count int) []byte {
	b := binary.BigEndian.AppendUint32(nil, uint32(m.Size))
	b = binary.BigEndian.AppendUint16(b, uint16(m.Symbol))
	b = binary.BigEndian.AppendUint32(b, uint32(m.K))
	b = binary.BigEndian.AppendUint64(b, uint64(m.Seed))
	b = binary.BigEndian.AppendUint16(b, uint16(count))
	for _, weight := range m.Table {
		b = binary.BigEndian.AppendUint32(b, uint32(weight))
	}
	return b
}

// said tells the manifest that bytes are of, if they are one's, by the chapter's words.
func said(b []byte) (api.Manifest, bool) {
	if len(b) < 20 {
		return api.Manifest{}, false
	}
	seed := binary.BigEndian.Uint64(b[10:])
	if seed > math.MaxInt64 || len(b) != 20+4*int(binary.BigEndian.Uint16(b[18:])) {
		return api.Manifest{}, false
	}
	m := api.Manifest{
		Size:   int(binary.BigEndian.Uint32(b)),
		Symbol: int(binary.BigEndian.Uint16(b[4:])),
		K:      int(binary.BigEndian.Uint32(b[6:])),
		Seed:   int(seed),
	}
	for at := 20; at < len(b); at += 4 {
		m.Table = append(m.Table, int(binary.BigEndian.Uint32(b[at:])))
	}
	return m, may(m)
}

// blocks tells how many blocks a manifest that may be has, by counting bytes off.
func blocks(m api.Manifest) int {
	n := m.Size / (m.K * m.Symbol)
	if n*m.K*m.Symbol < m.Size {
		n++
	}
	return n
}

// same tells whether two manifests are one.
func same(a, b api.Manifest) bool {
	return a.Size == b.Size && a.Symbol == b.Symbol && a.K == b.K && a.Seed == b.Seed && slices.Equal(a.Table, b.Table)
}

// short tells a manifest with little of its table.
func short(m api.Manifest) api.Manifest {
	m.Table = m.Table[:min(len(m.Table), 8)]
	return m
}

// brief tells bytes, of many of them only both ends.
func brief(b []byte) []byte {
	if len(b) > 60 {
		return slices.Concat(b[:30], b[len(b)-30:])
	}
	return b
}

// wantMay fails if a manifest isn't one that may be, with so many blocks and those bytes.
func wantMay(t *testing.T, m api.Manifest, count int, right []byte) {
	t.Helper()
	if got := Check(m); got != api.OK {
		t.Errorf("Check(%v): got %v, want OK", short(m), got)
	}
	if got := Blocks(m); got != count {
		t.Errorf("Blocks(%v): got %d, want %d", short(m), got, count)
	}
	if got, err := Put(m); err != api.OK || !bytes.Equal(got, right) {
		t.Errorf("Put(%v): got %d, %v, want %d", short(m), brief(got), err, brief(right))
	}
	wantGet(t, right, m)
}

// wantNot fails if a manifest is one that may be, or if beside the error something is told.
func wantNot(t *testing.T, m api.Manifest) {
	t.Helper()
	if got := Check(m); got != api.ErrArg {
		t.Errorf("Check(%v): got %v, want ErrArg", short(m), got)
	}
	if got := Blocks(m); got != 0 {
		t.Errorf("Blocks(%v): got %d, want 0", short(m), got)
	}
	if got, err := Put(m); err != api.ErrArg || len(got) != 0 {
		t.Errorf("Put(%v): got %d bytes, %v, want none, ErrArg", short(m), len(got), err)
	}
	for _, block := range []int{math.MinInt, -1, 0, 1, math.MaxInt} {
		// It may have no such block either: that it may not be is named first.
		wantNoPart(t, m, block, api.ErrArg)
	}
}

// wantAsSaid fails if a manifest isn't told of as the chapter's words say.
func wantAsSaid(t *testing.T, m api.Manifest) {
	t.Helper()
	if may(m) {
		wantMay(t, m, blocks(m), laid(m))
	} else {
		wantNot(t, m)
	}
}

// wantPart fails if a block doesn't begin there, with so many bytes.
func wantPart(t *testing.T, m api.Manifest, block, from, size int) {
	t.Helper()
	if gotFrom, gotSize, err := Part(m, block); gotFrom != from || gotSize != size || err != api.OK {
		t.Errorf("Part(%v, %d): got %d, %d, %v, want %d, %d, OK", short(m), block, gotFrom, gotSize, err, from, size)
	}
}

// wantNoPart fails if a block isn't refused with that error and nothing beside it.
func wantNoPart(t *testing.T, m api.Manifest, block int, right api.Errno) {
	t.Helper()
	if from, size, err := Part(m, block); from != 0 || size != 0 || err != right {
		t.Errorf("Part(%v, %d): got %d, %d, %v, want 0, 0, %v", short(m), block, from, size, err, right)
	}
}

// wantGet fails if bytes aren't that manifest's.
func wantGet(t *testing.T, b []byte, right api.Manifest) {
	t.Helper()
	if got, err := Get(b); err != api.OK || !same(got, right) {
		t.Errorf("Get of %d bytes, %d: got %v, %v, want %v", len(b), brief(b), short(got), err, short(right))
	}
}

// wantRefused fails if bytes aren't refused, with no manifest beside it.
func wantRefused(t *testing.T, b []byte) {
	t.Helper()
	if got, err := Get(b); err != api.ErrForm || !same(got, api.Manifest{}) {
		t.Errorf("Get of %d bytes, %d: got %v, %v, want none, ErrForm", len(b), brief(b), short(got), err)
	}
}

// wantGetAsSaid fails if bytes aren't got, or refused, as the chapter's words say.
func wantGetAsSaid(t *testing.T, b []byte) {
	t.Helper()
	if m, ok := said(b); ok {
		wantGet(t, b, m)
	} else {
		wantRefused(t, b)
	}
}

// example tells the manifest of the chapter's examples.
func example() api.Manifest {
	return api.Manifest{Size: 10, Symbol: 2, K: 2, Seed: 7, Table: []int{1, 1}}
}

// plain tells manifests as one uses them, and at the edges of what they have.
func plain() []api.Manifest {
	return []api.Manifest{
		example(),
		{Symbol: 1, K: 1, Table: []int{1}},
		{Size: 1, Symbol: 1, K: 1, Table: []int{mostWeight}},
		{Size: 1000000, Symbol: 1024, K: 64, Seed: 20261119, Table: []int{5, 40, 20, 0, 10, 1}},
		{Size: 0x01020304, Symbol: 0x0506, K: 0x0708, Seed: 0x0B0C0D0E0F101112, Table: []int{0x030405, 0x060708, 0x090A0B}},
		{Size: mostSize, Symbol: mostSymbol, K: mostK, Seed: math.MaxInt, Table: []int{0, 0, mostWeight}},
		{Size: mostSize, Symbol: 1, K: 1, Seed: 1 << 62, Table: []int{1}},
		{Size: 65537, Symbol: 1, K: mostK, Seed: 256, Table: table(256, 0)},
		{Size: 12, Symbol: 3, K: 5, Seed: 1, Table: []int{1, 2, 3, 4, 5}},
		{Size: 7, Symbol: 7, K: mostK, Table: table(mostTable, 1)},
	}
}

// with tells a manifest with one number changed: the one at a place among Size, Symbol, K and Seed.
func with(m api.Manifest, place, n int) api.Manifest {
	*[]*int{&m.Size, &m.Symbol, &m.K, &m.Seed}[place] = n
	return m
}

// The chapter's table of examples

func TestExamples(t *testing.T) {
	m := example()
	right := []byte{0, 0, 0, 10, 0, 2, 0, 0, 0, 2, 0, 0, 0, 0, 0, 0, 0, 7, 0, 2, 0, 0, 0, 1, 0, 0, 0, 1}
	wantMay(t, m, 3, right)
	wantPart(t, m, 0, 0, 4)
	wantPart(t, m, 1, 4, 4)
	wantPart(t, m, 2, 8, 2)
	wantNoPart(t, m, 3, api.ErrRange)
	wantRefused(t, right[:len(right)-1])
	wantRefused(t, append(slices.Clone(right), 0))
	wantNot(t, api.Manifest{Size: 10, Symbol: 2, K: 2, Seed: 7})
	wantNot(t, api.Manifest{Size: 10, Symbol: 2, K: 1, Seed: 7, Table: []int{1, 1}})
	m.Size = 0
	wantMay(t, m, 0, slices.Concat(make([]byte, 4), right[4:]))
}

// P12.1: Check

func TestPlainManifests(t *testing.T) {
	for _, m := range plain() {
		if !may(m) {
			t.Errorf("%v is no manifest that may be", short(m))
		}
		wantAsSaid(t, m)
	}
	wantNot(t, api.Manifest{})
}

func TestEachNumberAtItsEdges(t *testing.T) {
	for _, m := range plain() {
		for place, edges := range [][]int{sizes, symbols, ks, seeds} {
			for _, n := range edges {
				wantAsSaid(t, with(m, place, n))
			}
		}
	}
}

func TestWrittenEdges(t *testing.T) {
	for place, edges := range [][]int{{0, mostSize}, {1, mostSymbol}, {2, mostK}, {0, math.MaxInt}} {
		for _, n := range edges {
			m := with(example(), place, n)
			if place == 2 {
				m.Table = []int{1}
			}
			if got := Check(m); got != api.OK {
				t.Errorf("Check(%v): got %v, want OK", m, got)
			}
		}
	}
	for place, edges := range [][]int{{-1, mostSize + 1}, {0, mostSymbol + 1}, {0, mostK + 1}, {-1, math.MinInt}} {
		for _, n := range edges {
			wantNot(t, with(example(), place, n))
		}
	}
}

func TestAllEdgesTogether(t *testing.T) {
	tables := [][]int{nil, {0}, {1}, {-1}, {1, 0}, {0, 0}, {0, mostWeight}, {1, mostWeight + 1}, table(3, 0)}
	for _, size := range []int{-1, 0, 1, mostSize, mostSize + 1} {
		for _, symbol := range []int{0, 1, mostSymbol, mostSymbol + 1} {
			for _, k := range []int{0, 1, 2, mostK, mostK + 1} {
				for _, seed := range []int{-1, 0, math.MaxInt} {
					for _, weighs := range tables {
						wantAsSaid(t, api.Manifest{Size: size, Symbol: symbol, K: k, Seed: seed, Table: weighs})
					}
				}
			}
		}
	}
}

func TestHowManyWeights(t *testing.T) {
	for _, k := range []int{1, 2, 3, 9, 255, 256, 257, mostTable - 1, mostTable, mostTable + 1, mostK} {
		for _, n := range []int{0, 1, 2, 3, k - 1, k, k + 1, mostTable - 1, mostTable, mostTable + 1, mostK - 1, mostK, mostK + 1} {
			m := api.Manifest{Size: 5, Symbol: 2, K: k, Table: table(n, 3)}
			if right := n >= 1 && n <= k && n <= 10000; right != may(m) {
				t.Errorf("of K %d, %d weights: %v", k, n, right)
			}
			wantAsSaid(t, m)
		}
	}
}

func TestNoWeights(t *testing.T) {
	for _, none := range [][]int{nil, {}, make([]int, 0, 9), []int{1, 2, 3}[:0]} {
		for _, m := range plain() {
			// Spare room has no weights.
			m.Table = none
			wantNot(t, m)
		}
	}
}

func TestEachWeightAtItsEdges(t *testing.T) {
	for _, n := range []int{1, 2, 3, 10, mostTable} {
		for _, place := range []int{0, n / 2, n - 1} {
			for _, weight := range weights {
				for _, first := range []int{0, 1} {
					m := api.Manifest{Size: 5, Symbol: 2, K: mostTable, Table: slices.Repeat([]int{first}, n)}
					m.Table[place] = weight
					wantAsSaid(t, m)
				}
			}
		}
	}
}

func TestAllWeightsNought(t *testing.T) {
	for _, n := range []int{1, 2, 3, 100, mostTable} {
		m := api.Manifest{Size: 5, Symbol: 2, K: mostTable, Table: make([]int, n)}
		wantNot(t, m)
		for _, place := range []int{0, n / 2, n - 1} {
			m.Table = make([]int, n)
			m.Table[place] = 1
			wantMay(t, m, 1, laid(m))
		}
	}
}

func TestWeightsThatAddUpToNought(t *testing.T) {
	for _, weighs := range [][]int{{1, -1}, {-1, 1}, {-1, 2}, {math.MaxInt, math.MaxInt, 2}, {math.MinInt, math.MinInt}} {
		wantNot(t, api.Manifest{Size: 5, Symbol: 2, K: 9, Table: weighs})
	}
	// Their sum may be any number.
	m := api.Manifest{Size: 5, Symbol: 2, K: mostK, Table: slices.Repeat([]int{mostWeight}, mostTable)}
	wantMay(t, m, 1, laid(m))
}

// P12.1: Blocks

func TestBlocksByHand(t *testing.T) {
	for _, x := range []struct{ size, symbol, k, right int }{
		{0, 1, 1, 0}, {1, 1, 1, 1}, {2, 1, 1, 2}, {mostSize, 1, 1, mostSize},
		{0, 2, 3, 0}, {1, 2, 3, 1}, {5, 2, 3, 1}, {6, 2, 3, 1}, {7, 2, 3, 2}, {11, 2, 3, 2}, {12, 2, 3, 2}, {13, 2, 3, 3},
		{1000, 10, 100, 1}, {999, 10, 100, 1}, {1001, 10, 100, 2}, {1000000, 1024, 64, 16},
		{0, mostSymbol, mostK, 0}, {1, mostSymbol, mostK, 1}, {mostSize, mostSymbol, mostK, 2}, {4294901760, mostSymbol, mostK, 1}, {4294901761, mostSymbol, mostK, 2},
		{mostSize, mostSymbol, 1, 65537}, {mostSize, 1, mostK, 65536}, {mostSize, 1, 65535, 65537}, {mostSize, 2, 1, 1 << 31},
	} {
		m := api.Manifest{Size: x.size, Symbol: x.symbol, K: x.k, Table: []int{1}}
		if got := Blocks(m); got != x.right {
			t.Errorf("Blocks of %d bytes by %d and %d: got %d, want %d", x.size, x.symbol, x.k, got, x.right)
		}
	}
}

func TestBlocksAboutSomeBlocks(t *testing.T) {
	for _, cut := range [][2]int{{1, 2}, {2, 1}, {1, 7}, {3, 5}, {255, 64}, {1000, 1}, {mostSymbol, 1}, {1, mostK}, {mostSymbol, 2}, {mostSymbol, mostK}} {
		m := api.Manifest{Symbol: cut[0], K: cut[1], Table: []int{1}}
		whole := cut[0] * cut[1]
		for _, n := range []int{1, 2, 3, 100, mostSize / whole} {
			for _, x := range []struct{ more, right int }{{-whole, n - 1}, {1 - whole, n}, {-1, n}, {0, n}, {1, n + 1}, {whole - 1, n + 1}, {whole, n + 1}} {
				m.Size = n*whole + x.more
				if m.Size > mostSize {
					continue
				}
				if got := Blocks(m); got != x.right {
					t.Errorf("Blocks(%v): got %d, want %d", m, got, x.right)
				}
			}
		}
	}
}

// P12.1: Part

func TestPartsByHand(t *testing.T) {
	m := api.Manifest{Size: 13, Symbol: 2, K: 3, Table: []int{1, 0, 2}}
	for block, right := range [][2]int{{0, 6}, {6, 6}, {12, 1}} {
		wantPart(t, m, block, right[0], right[1])
	}
	m.Size = 12
	wantPart(t, m, 1, 6, 6)
	wantNoPart(t, m, 2, api.ErrRange)
	m.Size = 11
	wantPart(t, m, 1, 6, 5)
	m.Size = 3
	wantPart(t, m, 0, 0, 3)
	wantNoPart(t, m, 1, api.ErrRange)
}

func TestPartsOfTheGreatest(t *testing.T) {
	m := api.Manifest{Size: mostSize, Symbol: mostSymbol, K: mostK, Table: []int{1}}
	wantPart(t, m, 0, 0, 4294901760)
	wantPart(t, m, 1, 4294901760, 65535)
	wantNoPart(t, m, 2, api.ErrRange)
	m.Size = 4294901760
	wantPart(t, m, 0, 0, 4294901760)
	wantNoPart(t, m, 1, api.ErrRange)
	m.Size = 4294901761
	wantPart(t, m, 1, 4294901760, 1)
	m.Size = 1
	wantPart(t, m, 0, 0, 1)
	m = api.Manifest{Size: mostSize, Symbol: 1, K: 1, Table: []int{1}}
	wantPart(t, m, mostSize-1, mostSize-1, 1)
	wantNoPart(t, m, mostSize, api.ErrRange)
}

func TestBlocksThatThereAreNot(t *testing.T) {
	for _, m := range plain() {
		n := blocks(m)
		// Some of the far ones come back among the blocks, or to 0, where a product wraps round.
		whole := m.K * m.Symbol
		for _, block := range []int{math.MinInt, math.MinInt + 1, -1 << 32, -n, -2, -1, n, n + 1, 2*n + 1, 1 << 32, 1 << 62, math.MaxInt / whole, math.MaxInt/whole + 1, math.MaxInt - 1, math.MaxInt} {
			if block < 0 || block >= n {
				wantNoPart(t, m, block, api.ErrRange)
			}
		}
		if n > 0 {
			wantPart(t, m, 0, 0, min(whole, m.Size))
			wantPart(t, m, n-1, (n-1)*whole, m.Size-(n-1)*whole)
		}
		m.Size = 0
		for _, block := range []int{math.MinInt, -1, 0, 1, math.MaxInt} {
			wantNoPart(t, m, block, api.ErrRange)
		}
	}
}

// P12.2: Put, and Get of what may be

func TestWrittenManifests(t *testing.T) {
	m := api.Manifest{Size: 0x01020304, Symbol: 0x0506, K: 0x0708, Seed: 0x0B0C0D0E0F101112, Table: []int{0x151617, 0x191A1B}}
	wantMay(t, m, 1+0x01020304/(0x0506*0x0708), []byte{1, 2, 3, 4, 5, 6, 0, 0, 7, 8, 11, 12, 13, 14, 15, 16, 17, 18, 0, 2, 0, 21, 22, 23, 0, 25, 26, 27})
	m = api.Manifest{Symbol: 1, K: 1, Table: []int{1}}
	wantMay(t, m, 0, []byte{0, 0, 0, 0, 0, 1, 0, 0, 0, 1, 0, 0, 0, 0, 0, 0, 0, 0, 0, 1, 0, 0, 0, 1})
	m = api.Manifest{Size: mostSize, Symbol: mostSymbol, K: mostK, Seed: math.MaxInt, Table: []int{0, mostWeight, 0}}
	wantMay(t, m, 2, []byte{255, 255, 255, 255, 255, 255, 0, 1, 0, 0, 127, 255, 255, 255, 255, 255, 255, 255, 0, 3, 0, 0, 0, 0, 0, 255, 255, 255, 0, 0, 0, 0})
}

func TestTheMostWeights(t *testing.T) {
	m := api.Manifest{Size: 9, Symbol: 2, K: mostTable, Seed: 3, Table: table(mostTable, 0)}
	right := laid(m)
	if len(right) != 40020 || right[18] != 39 || right[19] != 16 {
		t.Errorf("10,000 weights are laid in %d bytes, as %d", len(right), right[18:20])
	}
	wantMay(t, m, 1, right)
	for n := 1; n <= 9; n++ {
		wantRefused(t, append(slices.Clone(right), make([]byte, n)...))
		wantRefused(t, right[:len(right)-n])
	}
	m.K, m.Table = mostK, table(mostTable+1, 0)
	wantNot(t, m)
	wantRefused(t, laid(m))
	m.Table = table(mostSymbol, 1)
	wantRefused(t, laid(m))
	wantRefused(t, make([]byte, 1<<20))
}

// P12.2: Get of what is none's

func TestGetOfEachLength(t *testing.T) {
	for _, m := range plain() {
		if len(m.Table) > 300 {
			continue
		}
		whole := laid(m)
		longer := append(slices.Clone(whole), 0, 0, 0, 1, 0, 0, 0, 1, 1)
		for n := range len(longer) + 1 {
			if n == len(whole) {
				wantGet(t, longer[:n], m)
			} else {
				wantRefused(t, longer[:n])
			}
		}
	}
	wantRefused(t, nil)
	wantRefused(t, []byte{})
}

func TestGetOfNoughts(t *testing.T) {
	for n := range 100 {
		wantRefused(t, make([]byte, n))
		wantRefused(t, bytes.Repeat([]byte{255}, n))
	}
}

func TestGetOfAnotherCount(t *testing.T) {
	for _, n := range []int{1, 2, 3, 5, 255, 256, 257, 1000} {
		m := api.Manifest{Size: 10, Symbol: 2, K: 1000, Seed: 7, Table: table(n, 1)}
		for _, count := range []int{0, 1, 2, n - 1, n, n + 1, n + 256, n ^ 256, 999, 1000, 1001, 10000, 10001, 65535} {
			if count == n {
				wantGet(t, told(m, count), m)
			} else {
				wantRefused(t, told(m, count))
			}
		}
	}
}

func TestGetOfMoreWeightsThanK(t *testing.T) {
	for _, k := range []int{0, 1, 2, 3, 10, 100} {
		for n := range 12 {
			m := api.Manifest{Size: 10, Symbol: 2, K: k, Seed: 7, Table: table(n, 1)}
			if n >= 1 && n <= k {
				wantGet(t, laid(m), m)
			} else {
				wantRefused(t, laid(m))
			}
		}
	}
}

func TestGetOfNumbersAtTheirEdges(t *testing.T) {
	for _, m := range plain() {
		for place, edges := range [][]int{sizes, symbols, ks, seeds} {
			for _, n := range edges {
				wantGetAsSaid(t, laid(with(m, place, n)))
			}
		}
		// What is wrong here may not be refused for another cause alone.
		wantRefused(t, laid(with(m, 1, 0)))
		wantRefused(t, laid(with(m, 2, 0)))
		wantRefused(t, laid(with(m, 2, mostK+1)))
		wantRefused(t, laid(with(m, 2, mostSize)))
		wantRefused(t, laid(with(m, 3, -1)))
		wantRefused(t, laid(with(m, 3, math.MinInt)))
	}
}

func TestGetOfSeedsOfEightBytes(t *testing.T) {
	for _, m := range plain() {
		for first := range 256 {
			b := laid(m)
			b[10] = byte(first)
			if first < 128 {
				n := m
				n.Seed = first<<56 | m.Seed&(1<<56-1)
				wantGet(t, b, n)
			} else {
				wantRefused(t, b)
			}
		}
	}
}

func TestGetOfWeightsAtTheirEdges(t *testing.T) {
	for _, n := range []int{1, 2, 3, 10} {
		for _, place := range []int{0, n / 2, n - 1} {
			for _, weight := range weights {
				for _, first := range []int{0, 1} {
					m := api.Manifest{Size: 5, Symbol: 2, K: 10, Table: slices.Repeat([]int{first}, n)}
					m.Table[place] = weight
					wantGetAsSaid(t, laid(m))
				}
			}
			m := api.Manifest{Size: 5, Symbol: 2, K: 10, Table: table(n, 1)}
			m.Table[place] = mostWeight + 1
			wantRefused(t, laid(m))
			wantRefused(t, laid(api.Manifest{Size: 5, Symbol: 2, K: 10, Table: make([]int, n)}))
		}
	}
}
