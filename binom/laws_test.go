package binom

import (
	"encoding/binary"
	"math/big"
	"math/bits"
	"math/rand/v2"
	"slices"
	"testing"

	"artesian/api"
	"artesian/limbs"
	"artesian/times"
)

// toBig tells a number by the library's type for it.
func toBig(n api.Nat) *big.Int {
	var b []byte
	for _, x := range slices.Backward(n) {
		b = binary.BigEndian.AppendUint64(b, x)
	}
	return new(big.Int).SetBytes(b)
}

// wantBig fails if a call's answer is none, or isn't what the library tells.
func wantBig(t *testing.T, call string, got api.Nat, err api.Errno, right *big.Int) {
	t.Helper()
	if err != api.OK || limbs.Check(got) != api.OK || toBig(got).Cmp(right) != 0 {
		t.Errorf("%s: got %s, %v", call, brief(got), err)
	}
}

// bigFalling tells by the library how many rows of k things there are among n.
func bigFalling(n, k int) *big.Int {
	if k > n {
		return new(big.Int)
	}
	return new(big.Int).MulRange(int64(n-k+1), int64(n))
}

// bigCount tells by the library in how many ways things are put into groups: the sum's factorial over those of all groups.
func bigCount(l []int) *big.Int {
	sum, down := 0, big.NewInt(1)
	for _, size := range l {
		sum += size
		down.Mul(down, bigFalling(size, size))
	}
	return down.Quo(bigFalling(sum, sum), down)
}

// choose tells Choose where it refuses nothing.
func choose(t *testing.T, n, k int) api.Nat {
	t.Helper()
	got, err := Choose(n, k)
	if err != api.OK {
		t.Fatalf("Choose(%d, %d): %v", n, k, err)
	}
	return got
}

// falling tells Falling where it refuses nothing.
func falling(t *testing.T, n, k int) api.Nat {
	t.Helper()
	got, err := Falling(n, k)
	if err != api.OK {
		t.Fatalf("Falling(%d, %d): %v", n, k, err)
	}
	return got
}

// P7.1 to P7.3, against the chapter's words: all that is told is counted one by one

func TestChooseCountsSets(t *testing.T) {
	for n := range 13 {
		found := make([]uint64, n+1)
		for set := range 1 << n {
			found[bits.OnesCount(uint(set))]++
		}
		for k := -3; k < n+4; k++ {
			right := uint64(0)
			if 0 <= k && k <= n {
				right = found[k]
			}
			if got := choose(t, n, k); !slices.Equal(got, limbs.Of(right)) {
				t.Errorf("Choose(%d, %d): %v, want %d", n, k, got, right)
			}
		}
	}
}

// countRows tells how many rows of k unlike things there are, all of them among n, none of used.
func countRows(n, k int, used uint) uint64 {
	if k == 0 {
		return 1
	}
	sum := uint64(0)
	for i := range n {
		if used>>i&1 == 0 {
			sum += countRows(n, k-1, used|1<<i)
		}
	}
	return sum
}

func TestFallingCountsRows(t *testing.T) {
	for n := range 8 {
		for k := range n + 3 {
			right := countRows(n, k, 0)
			if got := falling(t, n, k); !slices.Equal(got, limbs.Of(right)) {
				t.Errorf("Falling(%d, %d): %v, want %d", n, k, got, right)
			}
		}
	}
}

// countGroups tells in how many ways so many things, each by itself, go to groups that have so much room left.
func countGroups(things int, room []int) uint64 {
	if things == 0 {
		return 1
	}
	sum := uint64(0)
	for i := range room {
		if room[i] > 0 {
			room[i]--
			sum += countGroups(things-1, room)
			room[i]++
		}
	}
	return sum
}

func TestCountCountsGroups(t *testing.T) {
	for a := range 4 {
		for b := range 4 {
			for c := range 3 {
				for d := range 3 {
					l := []int{a, b, c, d}
					right := countGroups(a+b+c+d, slices.Clone(l))
					if got, err := Count(l); err != api.OK || !slices.Equal(got, limbs.Of(right)) {
						t.Errorf("Count(%v): %v, %v, want %d", l, got, err, right)
					}
				}
			}
		}
	}
}

// P7.1 to P7.3, against the library

func TestChooseAgreesWithLibrary(t *testing.T) {
	r := rand.New(rand.NewPCG(71, 72))
	for range 600 {
		n := r.IntN(3000)
		k := r.IntN(n + 1)
		wantBig(t, "Choose", choose(t, n, k), api.OK, new(big.Int).Binomial(int64(n), int64(k)))
	}
	for _, x := range [][2]int{{mostThings, 700}, {mostThings, mostThings - 701}, {mostThings - 1, 702}, {mostThings, mostThings / 2}} {
		wantBig(t, "Choose", choose(t, x[0], x[1]), api.OK, new(big.Int).Binomial(int64(x[0]), int64(x[1])))
	}
}

func TestRowsAgreeWithLibrary(t *testing.T) {
	for n := 0; n <= mostRow; n += 1 + n/3 {
		row, err := Row(n)
		for k, got := range row {
			wantBig(t, "Row", got, err, new(big.Int).Binomial(int64(n), int64(k)))
		}
	}
}

func TestFallingAgreesWithLibrary(t *testing.T) {
	r := rand.New(rand.NewPCG(73, 74))
	for range 600 {
		n := r.IntN(2000)
		k := r.IntN(n + 3)
		wantBig(t, "Falling", falling(t, n, k), api.OK, bigFalling(n, k))
	}
	for _, k := range []int{3, 4, 5, 700, mostThings - 1, mostThings} {
		wantBig(t, "Falling", falling(t, mostThings, k), api.OK, bigFalling(mostThings, k))
	}
}

// someGroups tells lists of groups, always the same ones, some of them empty, few of them great.
func someGroups(count int) [][]int {
	r := rand.New(rand.NewPCG(75, 76))
	var all [][]int
	for range count {
		l := make([]int, r.IntN(12))
		for i := range l {
			l[i] = r.IntN(1 + []int{0, 1, 5, 60, 300}[r.IntN(5)])
		}
		all = append(all, l)
	}
	return all
}

func TestCountAgreesWithLibrary(t *testing.T) {
	for _, l := range someGroups(600) {
		got, err := Count(l)
		wantBig(t, "Count", got, err, bigCount(l))
	}
	for _, l := range [][]int{slices.Repeat([]int{1}, mostThings), slices.Repeat([]int{4096}, 16), slices.Repeat([]int{65, 0, 191}, 256), {40000, 20000, 5536}} {
		got, err := Count(l)
		wantBig(t, "Count", got, err, bigCount(l))
	}
}

// P7.4

func TestAsManyAreLeftOutAsPicked(t *testing.T) {
	for n := range 150 {
		for k := -2; k < n+3; k++ {
			if a, b := choose(t, n, k), choose(t, n, n-k); !slices.Equal(a, b) {
				t.Errorf("Choose(%d, %d): %s, of the others: %s", n, k, brief(a), brief(b))
			}
		}
	}
	for _, k := range []int{-1, 0, 1, 300, mostThings, mostThings + 1} {
		if !slices.Equal(choose(t, mostThings, k), choose(t, mostThings, mostThings-k)) {
			t.Errorf("Choose(%d, %d)", mostThings, k)
		}
	}
}

func TestChooseIsBothAboveTogether(t *testing.T) {
	for n := 1; n < 150; n++ {
		for k := -2; k < n+3; k++ {
			wantTogether(t, n, k)
		}
	}
	for _, k := range []int{0, 1, 300, mostThings - 300, mostThings - 1, mostThings} {
		wantTogether(t, mostThings, k)
	}
}

// wantTogether fails if k of n aren't chosen in as many ways as k and as k - 1 of one thing less together.
func wantTogether(t *testing.T, n, k int) {
	t.Helper()
	both := limbs.Add(choose(t, n-1, k), choose(t, n-1, k-1))
	if got := choose(t, n, k); !slices.Equal(got, both) {
		t.Errorf("Choose(%d, %d): %s, want %s", n, k, brief(got), brief(both))
	}
}

func TestARowsSumIsAPowerOfTwo(t *testing.T) {
	for n := 0; n <= mostRow; n += 1 + n/50 {
		row, err := Row(n)
		var sum api.Nat
		for _, x := range row {
			sum = limbs.Add(sum, x)
		}
		right, _ := limbs.Up(limbs.Of(1), n)
		if err != api.OK || !slices.Equal(sum, right) {
			t.Errorf("Row(%d): together %s, %v", n, brief(sum), err)
		}
	}
}

func TestOfTwoHeaps(t *testing.T) {
	for _, x := range [][2]int{{0, 0}, {0, 9}, {1, 1}, {5, 3}, {20, 50}, {64, 64}, {100, 30}} {
		for k := -1; k <= x[0]+x[1]+1; k++ {
			var sum api.Nat
			for some := range k + 1 {
				sum = limbs.Add(sum, times.Mul(choose(t, x[0], some), choose(t, x[1], k-some)))
			}
			if got := choose(t, x[0]+x[1], k); !slices.Equal(got, sum) {
				t.Errorf("Choose(%d, %d): %s, of heaps of %v: %s", x[0]+x[1], k, brief(got), x, brief(sum))
			}
		}
	}
}

func TestFallingIsChooseTimesAllOrders(t *testing.T) {
	for n := range 90 {
		for k := range n + 3 {
			right := times.Mul(choose(t, n, k), falling(t, k, k))
			if got := falling(t, n, k); !slices.Equal(got, right) {
				t.Errorf("Falling(%d, %d): %s, want %s", n, k, brief(got), brief(right))
			}
		}
	}
	right := times.Mul(choose(t, mostThings, 500), falling(t, 500, 500))
	if got := falling(t, mostThings, 500); !slices.Equal(got, right) {
		t.Errorf("Falling(%d, 500): %s, want %s", mostThings, brief(got), brief(right))
	}
}

func TestTwoGroupsAreChosen(t *testing.T) {
	for n := range 90 {
		for k := range n + 1 {
			got, err := Count([]int{k, n - k})
			if right := choose(t, n, k); err != api.OK || !slices.Equal(got, right) {
				t.Errorf("Count(%d %d): %s, %v, want %s", k, n-k, brief(got), err, brief(right))
			}
		}
	}
}

func TestCountHangsOnNoOrder(t *testing.T) {
	for _, l := range someGroups(200) {
		right, _ := Count(l)
		turned := slices.Clone(l)
		slices.Reverse(turned)
		for _, m := range [][]int{turned, slices.Sorted(slices.Values(l)), slices.Concat([]int{0}, l, []int{0, 0})} {
			if got, err := Count(m); err != api.OK || !slices.Equal(got, right) {
				t.Errorf("Count(%v): %s, %v, want %s", m, brief(got), err, brief(right))
			}
		}
	}
}

// Rule 4: an answer is new memory, and what is handed in is left alone.

// scribble writes over all of a number's memory.
func scribble(n api.Nat) {
	room := n[:cap(n)]
	for i := range room {
		room[i] = 77
	}
}

func TestAnswersAreNewMemory(t *testing.T) {
	calls := map[string]func() api.Nat{
		"Choose none":   func() api.Nat { n, _ := Choose(9, 10); return n },
		"Choose 0":      func() api.Nat { n, _ := Choose(9, 0); return n },
		"Choose 4":      func() api.Nat { n, _ := Choose(9, 4); return n },
		"Choose many":   func() api.Nat { n, _ := Choose(900, 400); return n },
		"Falling none":  func() api.Nat { n, _ := Falling(9, 10); return n },
		"Falling 0":     func() api.Nat { n, _ := Falling(9, 0); return n },
		"Falling 1":     func() api.Nat { n, _ := Falling(9, 1); return n },
		"Falling many":  func() api.Nat { n, _ := Falling(900, 400); return n },
		"Count none":    func() api.Nat { n, _ := Count(nil); return n },
		"Count a group": func() api.Nat { n, _ := Count([]int{5}); return n },
		"Count many":    func() api.Nat { n, _ := Count([]int{300, 1, 200}); return n },
	}
	for name, call := range calls {
		first := call()
		kept := slices.Clone(first)
		scribble(first)
		if again := call(); !slices.Equal(again, kept) {
			t.Errorf("%s: %v, and once more %v", name, kept, again)
		}
	}
}

func TestRowsAreNewMemory(t *testing.T) {
	for _, n := range []int{0, 1, 2, 3, 8, 70} {
		row, _ := Row(n)
		// What is behind the row is its memory, too: no number may stand there a second time.
		row = row[:cap(row)]
		for i := range row {
			mark := row[i][:cap(row[i])]
			for j := range mark {
				mark[j] = uint64(i)
			}
		}
		for i := range row {
			for _, x := range row[i][:cap(row[i])] {
				if x != uint64(i) {
					t.Errorf("Row(%d): %d and %d share memory", n, i, x)
				}
			}
		}
		again, _ := Row(n)
		for k, x := range again {
			wantBig(t, "Row", x, api.OK, new(big.Int).Binomial(int64(n), int64(k)))
		}
	}
}

func TestGroupsAreLeftAlone(t *testing.T) {
	for _, l := range append(someGroups(200), []int{1, -1}, []int{mostThings, 1}) {
		room := slices.Concat(l, []int{91, 92, 93})
		held := slices.Clone(room)
		got, err := Count(room[:len(l)])
		if !slices.Equal(room, held) {
			t.Errorf("what was handed in is changed: %v", l)
		}
		if right, e := Count(l); e != err || !slices.Equal(got, right) {
			t.Errorf("Count(%v) with spare room: %s, %v, want %s, %v", l, brief(got), err, brief(right), e)
		}
		scribble(got)
		if !slices.Equal(room, held) {
			t.Errorf("what was handed in is answered: %v", l)
		}
	}
}
