package manifest

import (
	"bytes"
	"math"
	"math/rand/v2"
	"slices"
	"testing"

	"artesian/api"
	"artesian/loan"
)

// behind and weighsBehind are what stands in the spare room of what is handed in, and must be found there again.
const (
	behind       = 0x5a
	weighsBehind = 0x5a5a
)

// someNumber tells a number from low to high, at an end or near one more often than even draws would.
func someNumber(r *rand.Rand, low, high int) int {
	switch r.IntN(6) {
	case 0:
		return low
	case 1:
		return high
	case 2:
		return min(high, low+r.IntN(5))
	case 3:
		return low + r.IntN(high-low)
	}
	return max(low, r.IntN(high)>>r.IntN(33))
}

// someManifest tells a manifest that may be.
func someManifest(r *rand.Rand) api.Manifest {
	m := api.Manifest{
		Size:   someNumber(r, 0, mostSize),
		Symbol: someNumber(r, 1, mostSymbol),
		K:      someNumber(r, 1, mostK),
		Seed:   someNumber(r, 0, math.MaxInt),
	}
	most := min(m.K, []int{4, 40, 4000}[r.IntN(3)])
	for range r.IntN(most) + 1 {
		m.Table = append(m.Table, someNumber(r, 0, mostWeight))
	}
	m.Table[r.IntN(len(m.Table))] = someNumber(r, 1, mostWeight)
	return m
}

// put tells a manifest's bytes, which it must have.
func put(t *testing.T, m api.Manifest) []byte {
	t.Helper()
	b, err := Put(m)
	if err != api.OK {
		t.Fatalf("Put(%v): %v", short(m), err)
	}
	return b
}

// P12.3: what is put is got as it was, what is got is put as it was

func TestWhatIsPutIsGot(t *testing.T) {
	source := rand.New(rand.NewPCG(1201, 1202))
	for range 5000 {
		m := someManifest(source)
		if !may(m) {
			t.Fatalf("%v may not be", short(m))
		}
		wantAsSaid(t, m)
		wantGet(t, put(t, m), m)
	}
	for _, m := range plain() {
		wantGet(t, put(t, m), m)
	}
}

func TestWhatIsGotIsPut(t *testing.T) {
	source := rand.New(rand.NewPCG(1203, 1204))
	got := 0
	for range 60000 {
		m := someManifest(source)
		m.Table = m.Table[:min(len(m.Table), 6)]
		b := laid(m)
		for range source.IntN(3) {
			b[source.IntN(len(b))] = byte(source.IntN(256))
		}
		right, ok := said(b)
		if !ok {
			wantRefused(t, b)
			continue
		}
		got++
		found, err := Get(b)
		if err != api.OK || !same(found, right) {
			t.Errorf("Get of %d: got %v, %v, want %v", b, found, err, right)
		}
		if !bytes.Equal(put(t, found), b) {
			t.Errorf("%d is got, and not put as it was", b)
		}
	}
	if got < 10000 || got > 50000 {
		t.Errorf("%d of the bytes were manifests'", got)
	}
}

func TestGetOfAnyBytes(t *testing.T) {
	source := rand.New(rand.NewPCG(1205, 1206))
	for range 50000 {
		b := make([]byte, source.IntN(60))
		for i := range b {
			b[i] = byte(source.IntN([]int{2, 2, 256}[source.IntN(3)]))
		}
		wantGetAsSaid(t, b)
	}
}

func TestEachBitTurned(t *testing.T) {
	for _, m := range plain() {
		whole := laid(m)
		for bit := range min(len(whole), 100) * 8 {
			turned := slices.Clone(whole)
			turned[bit/8] ^= 1 << (bit % 8)
			// It is another manifest's, or none's.
			if got, err := Get(turned); err == api.OK && same(got, m) {
				t.Errorf("with the bit %d turned, the bytes of %v are its own", bit, short(m))
			}
			wantGetAsSaid(t, turned)
		}
	}
}

// P12.3: no manifest's bytes begin with another one's

func TestNoBytesBeginWithOthers(t *testing.T) {
	source := rand.New(rand.NewPCG(1207, 1208))
	all := [][]byte{}
	for _, m := range plain() {
		all = append(all, put(t, m))
	}
	for range 300 {
		m := someManifest(source)
		m.Table = m.Table[:1]
		m.Table[0] = source.IntN(2) + 1
		all = append(all, put(t, m))
		// All that it may share with another is there, and more behind.
		m.K = max(m.K, 4)
		for n := 2; n <= 4; n++ {
			m.Table = append(m.Table, 1)
			all = append(all, put(t, m))
		}
	}
	for i, one := range all {
		for j, other := range all {
			if i != j && bytes.HasPrefix(one, other) && !bytes.Equal(one, other) {
				t.Errorf("%d begins with %d", brief(one), brief(other))
			}
		}
	}
}

func TestNoBeginningIsAManifests(t *testing.T) {
	source := rand.New(rand.NewPCG(1209, 1210))
	for range 300 {
		m := someManifest(source)
		m.Table = m.Table[:min(len(m.Table), 30)]
		if !may(m) {
			continue
		}
		whole := put(t, m)
		for n := range whole {
			wantRefused(t, whole[:n])
		}
		wantGet(t, whole, m)
	}
}

// P12.3: its parts lie one behind the other, from 0 to Size, none of them empty

// wantParts fails if the parts of a manifest that may be don't lie so.
func wantParts(t *testing.T, m api.Manifest) {
	t.Helper()
	at, count := 0, Blocks(m)
	for block := range count {
		from, size, err := Part(m, block)
		if err != api.OK || from != at || size < 1 || size > m.K*m.Symbol {
			t.Fatalf("Part(%v, %d): got %d, %d, %v, behind %d", short(m), block, from, size, err, at)
		}
		if block < count-1 && size != m.K*m.Symbol {
			t.Fatalf("Part(%v, %d), not the last one: %d bytes", short(m), block, size)
		}
		at += size
	}
	if at != m.Size {
		t.Fatalf("the parts of %v end at %d", short(m), at)
	}
	wantNoPart(t, m, count, api.ErrRange)
	wantNoPart(t, m, -1, api.ErrRange)
}

func TestPartsOfSmallObjects(t *testing.T) {
	for size := range 60 {
		for symbol := 1; symbol <= 6; symbol++ {
			for k := 1; k <= 6; k++ {
				wantParts(t, api.Manifest{Size: size, Symbol: symbol, K: k, Table: []int{1}})
			}
		}
	}
}

func TestPartsOfAnyObjects(t *testing.T) {
	source := rand.New(rand.NewPCG(1211, 1212))
	for _, size := range []int{mostSize, 4294901760, 4294901761, 1 << 31, 1} {
		wantParts(t, api.Manifest{Size: size, Symbol: mostSymbol, K: mostK, Table: []int{1}})
		wantParts(t, api.Manifest{Size: size, Symbol: 1, K: mostK, Table: []int{1}})
		wantParts(t, api.Manifest{Size: size, Symbol: mostSymbol, K: 1, Table: []int{1}})
	}
	for range 2000 {
		m := someManifest(source)
		m.Table = []int{1}
		// So that there are not too many to be gone through.
		m.Size = min(m.Size, 300*m.K*m.Symbol+source.IntN(3))
		wantParts(t, m)
	}
}

func TestPartsOfManyBlocks(t *testing.T) {
	m := api.Manifest{Size: mostSize, Symbol: 1, K: 1, Table: []int{1}}
	for _, block := range []int{0, 1, 255, 256, 65535, 65536, 1 << 31, 1<<31 + 1, mostSize - 2, mostSize - 1} {
		wantPart(t, m, block, block, 1)
	}
	m.Symbol, m.K = 3, 7
	for _, block := range []int{0, 1, 1 << 20, 204522251} {
		wantPart(t, m, block, 21*block, 21)
	}
	// 2^32 - 1 is 21 times 204,522,252, and 3.
	wantPart(t, m, 204522252, 4294967292, 3)
	wantNoPart(t, m, 204522253, api.ErrRange)
}

// Rule 1: the first error that a promise names

func TestWhatMayNotBeIsToldFirst(t *testing.T) {
	for _, block := range []int{math.MinInt, -1, 3, 4, math.MaxInt} {
		m := example()
		wantNoPart(t, m, block, api.ErrRange)
		m.Seed = -1
		wantNoPart(t, m, block, api.ErrArg)
		wantNoPart(t, api.Manifest{Size: 10, Symbol: 2, K: 1, Table: []int{1, 1}}, block, api.ErrArg)
		wantNoPart(t, api.Manifest{}, block, api.ErrArg)
	}
}

// Rule 4: an answer is new memory, and what was handed in stays as it was and is not kept

func TestTablesStay(t *testing.T) {
	tables := [][]int{nil, {0}, {1}, {1, 1}, {1, -1}, {3, 2, 1}, {0, mostWeight + 1}, table(1000, 5), table(mostTable, 0), table(mostTable+1, 0)}
	for _, weighs := range tables {
		m := api.Manifest{Size: 10, Symbol: 2, K: mostK, Seed: 7, Table: loan.Of(weighs, weighsBehind)}
		right, rightErr := Put(m)
		right = slices.Clone(right)
		check, count := Check(m), Blocks(m)
		Part(m, 0)
		again, _ := Put(m)
		loan.Scribble(again, 0xee)
		if loan.Touched(m.Table, weighs, weighsBehind) {
			t.Errorf("a table of %d weights was changed", len(weighs))
		}
		// What is changed in it later changes no answer of another one's.
		loan.Scribble(m.Table, -1)
		m.Table = loan.Of(weighs, weighsBehind)
		if got, err := Put(m); err != rightErr || !bytes.Equal(got, right) || Check(m) != check || Blocks(m) != count {
			t.Errorf("a table of %d weights was kept", len(weighs))
		}
	}
}

func TestBytesStay(t *testing.T) {
	for _, m := range plain() {
		whole := laid(m)
		for _, b := range [][]byte{whole, whole[:len(whole)-1], whole[:20], whole[:19], nil, append(slices.Clone(whole), 0)} {
			lent := loan.Of(b, behind)
			got, err := Get(lent)
			if (err == api.OK) != (len(b) == len(whole)) {
				t.Errorf("Get of %d: %v", brief(b), err)
			}
			loan.Scribble(got.Table, -1)
			if loan.Touched(lent, b, behind) {
				t.Errorf("Get of %d bytes changed or handed out them", len(b))
			}
			again, _ := Get(lent)
			loan.Scribble(lent, 0xee)
			if err == api.OK && !same(again, m) {
				t.Errorf("Get of %d bytes kept them", len(b))
			}
		}
	}
}

func TestAnswersShareNothing(t *testing.T) {
	for _, m := range plain() {
		one, two := put(t, m), put(t, m)
		right := slices.Clone(two)
		loan.Scribble(one, 0xee)
		if !bytes.Equal(two, right) {
			t.Errorf("two answers of Put(%v) share memory", short(m))
		}
		first, _ := Get(right)
		second, _ := Get(right)
		loan.Scribble(first.Table, -1)
		if !same(second, m) {
			t.Errorf("two answers of Get of %v's bytes share memory", short(m))
		}
		wantGet(t, right, m)
		loan.Scribble(two, 0xee)
		if !bytes.Equal(put(t, m), right) {
			t.Errorf("what Put(%v) told was changed, and so is what it tells", short(m))
		}
	}
}
