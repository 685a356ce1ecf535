package soliton

import (
	"math"
	"math/big"
	"slices"
	"testing"

	"artesian/api"
)

// The greatest that there may be of each thing, as the chapter writes them.
const (
	mostK      = 65536
	mostWeight = 16777215
)

// ks, weights and scales are numbers about the ends of what each of these may be, and the ends of all.
var (
	ks      = []int{math.MinInt, -1 << 32, -mostK, -2, -1, 0, 1, 2, mostK - 1, mostK, mostK + 1, mostK + 2, 1<<32 + 1, math.MaxInt}
	weights = []int{math.MinInt, -mostWeight - 1, -2, -1, 0, 1, 2, mostWeight - 1, mostWeight, mostWeight + 1, 1<<32 + 1, math.MaxInt}
	scales  = []int{math.MinInt, -1 << 32, -mostWeight, -2, -1, 0, 1, 2, mostWeight - 1, mostWeight, mostWeight + 1, mostWeight + 2, 1<<32 + 1, math.MaxInt}
)

// isTable tells whether weights are a table of k, by the chapter's words.
func isTable(table []int, k int) bool {
	if k < 1 || k > mostK || len(table) < 1 || len(table) > k {
		return false
	}
	for _, weight := range table {
		if weight < 0 || weight > mostWeight {
			return false
		}
	}
	return slices.ContainsFunc(table, func(weight int) bool { return weight != 0 })
}

// idealShare tells the ideal soliton of k at a degree, by the chapter's words.
func idealShare(k, degree int) *big.Rat {
	if degree == 1 {
		return big.NewRat(1, int64(k))
	}
	return big.NewRat(1, int64(degree*(degree-1)))
}

// spikeShare tells a spike's share at a degree, by the chapter's words.
func spikeShare(spike int, mass *big.Rat, degree int) *big.Rat {
	if degree < spike {
		return big.NewRat(1, int64(degree*spike))
	}
	if degree == spike {
		return mass
	}
	return new(big.Rat)
}

// robustShare tells both at a degree.
func robustShare(k, spike int, mass *big.Rat, degree int) *big.Rat {
	return new(big.Rat).Add(idealShare(k, degree), spikeShare(spike, mass, degree))
}

// scaled tells scale times a share.
func scaled(scale int, share *big.Rat) *big.Rat {
	return new(big.Rat).Mul(big.NewRat(int64(scale), 1), share)
}

// nearest tells the whole number that is nearest to a number not below 0, the even one of two.
func nearest(r *big.Rat) *big.Int {
	low, left := new(big.Int).QuoRem(r.Num(), r.Denom(), new(big.Int))
	side := left.Lsh(left, 1).Cmp(r.Denom())
	if side > 0 || side == 0 && low.Bit(0) == 1 {
		low.Add(low, big.NewInt(1))
	}
	return low
}

// said tells the weights of k shares by a scale, if they are a table of k, by the chapter's words.
func said(k, scale int, share func(degree int) *big.Rat) ([]int, api.Errno) {
	table := []int{}
	for degree := 1; degree <= k; degree++ {
		weight := nearest(scaled(scale, share(degree)))
		if weight.Cmp(big.NewInt(mostWeight)) > 0 {
			return nil, api.ErrTable
		}
		table = append(table, int(weight.Int64()))
	}
	if !isTable(table, k) {
		return nil, api.ErrTable
	}
	return table, api.OK
}

// saidIdeal tells what Ideal must answer, where both numbers are in their range.
func saidIdeal(k, scale int) ([]int, api.Errno) {
	return said(k, scale, func(degree int) *big.Rat { return idealShare(k, degree) })
}

// saidRobust tells what Robust must answer, where all numbers are in their range.
func saidRobust(k, scale, spike int, mass *big.Rat) ([]int, api.Errno) {
	return said(k, scale, func(degree int) *big.Rat { return robustShare(k, spike, mass, degree) })
}

// nat tells a number's digits.
func nat(n *big.Int) api.Nat {
	var digits api.Nat
	for _, word := range n.Bits() {
		digits = append(digits, uint64(word))
	}
	return digits
}

// of tells a fraction as one of the program's.
func of(r *big.Rat) api.Ratio {
	return api.Ratio{Up: api.Int{Below: r.Sign() < 0, N: nat(r.Num())}, Down: nat(r.Denom())}
}

// pair tells a small fraction as one of the program's.
func pair(up, down int64) api.Ratio {
	return of(big.NewRat(up, down))
}

// raw tells a number over another just as they are, whether that is a fraction or none.
func raw(below bool, up, down api.Nat) api.Ratio {
	return api.Ratio{Up: api.Int{Below: below, N: up}, Down: down}
}

// nones tells what is no fraction, of all kinds.
func nones() []api.Ratio {
	return []api.Ratio{
		{},
		raw(false, api.Nat{1}, nil), raw(true, api.Nat{1}, nil), raw(false, nil, nil), raw(false, api.Nat{1}, api.Nat{0}),
		raw(false, api.Nat{2}, api.Nat{4}), raw(true, api.Nat{2}, api.Nat{4}), raw(false, api.Nat{3}, api.Nat{3}), raw(false, nil, api.Nat{2}), raw(false, api.Nat{0, 1}, api.Nat{2}),
		raw(false, api.Nat{0}, api.Nat{1}), raw(false, api.Nat{1, 0}, api.Nat{2}), raw(false, api.Nat{1}, api.Nat{2, 0}),
		raw(true, nil, api.Nat{1}), raw(true, api.Nat{0}, api.Nat{1}),
	}
}

// brief tells weights, of many of them only both ends.
func brief(table []int) []int {
	if len(table) > 40 {
		return slices.Concat(table[:20], table[len(table)-20:])
	}
	return table
}

// wantIdeal fails if Ideal doesn't answer just those weights, or just that error and no weights beside it.
func wantIdeal(t *testing.T, k, scale int, right []int, rightErr api.Errno) {
	t.Helper()
	if got, err := Ideal(k, scale); err != rightErr || !slices.Equal(got, right) {
		t.Errorf("Ideal(%d, %d): got %v, %v, want %v, %v", k, scale, brief(got), err, brief(right), rightErr)
	}
}

// wantRobust fails if Robust doesn't answer just those weights, or just that error and no weights beside it.
func wantRobust(t *testing.T, k, scale, spike int, mass api.Ratio, right []int, rightErr api.Errno) {
	t.Helper()
	if got, err := Robust(k, scale, spike, mass); err != rightErr || !slices.Equal(got, right) {
		t.Errorf("Robust(%d, %d, %d, %v): got %v, %v, want %v, %v", k, scale, spike, mass, brief(got), err, brief(right), rightErr)
	}
}

// wantMean fails if a table's mean isn't that fraction.
func wantMean(t *testing.T, table []int, right *big.Rat) {
	t.Helper()
	got, err := Mean(table)
	if err != api.OK || !same(got, of(right)) {
		t.Errorf("Mean(%v): got %v, %v, want %v", brief(table), got, err, right)
	}
}

// wantNoMean fails if something has a mean, or if beside the error something is told.
func wantNoMean(t *testing.T, table []int) {
	t.Helper()
	if got, err := Mean(table); err != api.ErrTable || !same(got, api.Ratio{}) {
		t.Errorf("Mean(%v): got %v, %v, want ErrTable", brief(table), got, err)
	}
}

// same tells whether two fractions are one, field by field.
func same(a, b api.Ratio) bool {
	return a.Up.Below == b.Up.Below && slices.Equal(a.Up.N, b.Up.N) && slices.Equal(a.Down, b.Down)
}

// wantCheck fails if something isn't, or is, a table of k.
func wantCheck(t *testing.T, table []int, k int, right api.Errno) {
	t.Helper()
	if got := Check(table, k); got != right {
		t.Errorf("Check(%v, %d) of %d: got %v, want %v", brief(table), k, len(table), got, right)
	}
}

// wantTotal fails if a list's total isn't that.
func wantTotal(t *testing.T, table []int, right int) {
	t.Helper()
	if got := Total(table); got != right {
		t.Errorf("Total(%v): got %d, want %d", brief(table), got, right)
	}
}

// The chapter's table of examples

func TestExamples(t *testing.T) {
	wantIdeal(t, 3, 60, []int{20, 30, 10}, api.OK)
	wantIdeal(t, 1, 7, []int{7}, api.OK)
	wantIdeal(t, 4, 1, nil, api.ErrTable)
	wantIdeal(t, 0, 5, nil, api.ErrRange)
	wantRobust(t, 3, 60, 2, pair(1, 4), []int{50, 45, 10}, api.OK)
	wantRobust(t, 3, 60, 4, pair(1, 4), nil, api.ErrRange)
	wantRobust(t, 3, 60, 2, pair(-1, 4), nil, api.ErrRange)
	wantMean(t, []int{1, 3}, big.NewRat(7, 4))
	wantNoMean(t, nil)
	wantCheck(t, []int{1, 2}, 1, api.ErrTable)
	wantCheck(t, []int{0, 0}, 2, api.ErrTable)
	wantCheck(t, []int{5}, 1, api.OK)
	wantTotal(t, []int{1, 2, 4}, 7)
}

// P13.1: what is a table of k

func TestCheckOfLengths(t *testing.T) {
	for _, k := range []int{1, 2, 3, 10, 1000, mostK - 1, mostK} {
		wantCheck(t, nil, k, api.ErrTable)
		wantCheck(t, []int{}, k, api.ErrTable)
		wantCheck(t, []int{1}, k, api.OK)
		wantCheck(t, slices.Repeat([]int{1}, k), k, api.OK)
		wantCheck(t, slices.Repeat([]int{1}, k+1), k, api.ErrTable)
		wantCheck(t, slices.Repeat([]int{1}, 2*k), k, api.ErrTable)
	}
}

func TestCheckOfK(t *testing.T) {
	for _, k := range ks {
		right := api.ErrTable
		if k >= 1 && k <= mostK {
			right = api.OK
		}
		wantCheck(t, []int{1}, k, right)
		wantCheck(t, []int{mostWeight}, k, right)
		wantCheck(t, nil, k, api.ErrTable)
		wantCheck(t, slices.Repeat([]int{1}, mostK+1), k, api.ErrTable)
	}
}

func TestCheckOfWeights(t *testing.T) {
	for _, n := range []int{1, 2, 3, 7, mostK} {
		for _, at := range []int{0, n / 2, n - 1} {
			for _, weight := range weights {
				table := slices.Repeat([]int{1}, n)
				table[at] = weight
				right := api.ErrTable
				if isTable(table, mostK) {
					right = api.OK
				}
				wantCheck(t, table, mostK, right)
				wantCheck(t, table, n, right)
			}
		}
	}
}

func TestCheckOfNoughts(t *testing.T) {
	for _, n := range []int{1, 2, 3, 100, mostK} {
		table := make([]int, n)
		wantCheck(t, table, mostK, api.ErrTable)
		for _, at := range []int{0, n / 2, n - 1} {
			for _, weight := range []int{1, mostWeight} {
				table[at] = weight
				wantCheck(t, table, mostK, api.OK)
				table[at] = 0
			}
		}
	}
	// What is no weight is none, also where all together are 0, or not 0.
	wantCheck(t, []int{1, -1}, 2, api.ErrTable)
	wantCheck(t, []int{5, -1}, 2, api.ErrTable)
	wantCheck(t, []int{0, mostWeight + 1, 0}, 3, api.ErrTable)
	wantCheck(t, []int{math.MinInt, math.MinInt, 1}, 3, api.ErrTable)
}

func TestCheckOfTheGreatest(t *testing.T) {
	wantCheck(t, slices.Repeat([]int{mostWeight}, mostK), mostK, api.OK)
	wantCheck(t, slices.Repeat([]int{mostWeight}, mostK), mostK-1, api.ErrTable)
	wantCheck(t, slices.Repeat([]int{mostWeight}, mostK+1), mostK+1, api.ErrTable)
}

// P13.1: the sum of any list

func TestTotal(t *testing.T) {
	wantTotal(t, nil, 0)
	wantTotal(t, []int{}, 0)
	wantTotal(t, []int{0, 0}, 0)
	wantTotal(t, []int{-5}, -5)
	wantTotal(t, []int{1, -5, 2}, -2)
	wantTotal(t, []int{1 << 40, 1 << 41}, 3<<40)
	wantTotal(t, slices.Repeat([]int{mostWeight}, mostK), mostWeight*mostK)
	wantTotal(t, slices.Repeat([]int{mostWeight + 1}, mostK+1), 1<<40+1<<24)
	for _, number := range weights {
		wantTotal(t, []int{number}, number)
		wantTotal(t, []int{0, number, 0}, number)
	}
}

func TestTotalBeyondAnInt(t *testing.T) {
	wantTotal(t, []int{math.MaxInt, 1}, math.MinInt)
	wantTotal(t, []int{math.MaxInt, math.MaxInt}, -2)
	wantTotal(t, []int{math.MinInt, -1}, math.MaxInt)
	wantTotal(t, []int{math.MinInt, math.MinInt}, 0)
	wantTotal(t, []int{math.MaxInt, 5, math.MinInt}, 4)
	wantTotal(t, []int{math.MinInt, math.MinInt, 7}, 7)
}

// P13.2: the ideal soliton by a scale

func TestIdealAtSmall(t *testing.T) {
	for k := 1; k <= 30; k++ {
		for scale := 1; scale <= 130; scale++ {
			right, err := saidIdeal(k, scale)
			wantIdeal(t, k, scale, right, err)
		}
	}
}

func TestIdealIsRounded(t *testing.T) {
	// 1/3 and 1/2 and 1/6 of 4: down from 1 1/3, just 2, up from 2/3.
	wantIdeal(t, 3, 4, []int{1, 2, 1}, api.OK)
	// 3 1/2 is half a way, and to the even side: up; 2 1/2: down.
	wantIdeal(t, 2, 7, []int{4, 4}, api.OK)
	wantIdeal(t, 2, 5, []int{2, 2}, api.OK)
	// 1/2 1 1/3 1/6, and 1 1/2 3 1 1/2 of half a way: down to 0, up to 2, down to 0.
	wantIdeal(t, 4, 2, []int{0, 1, 0, 0}, api.OK)
	wantIdeal(t, 4, 6, []int{2, 3, 1, 0}, api.OK)
}

func TestIdealOfNoughts(t *testing.T) {
	wantIdeal(t, 1, 1, []int{1}, api.OK)
	for _, k := range []int{2, 3, 4, 5, 100, mostK} {
		wantIdeal(t, k, 1, nil, api.ErrTable)
	}
	wantIdeal(t, 2, 2, []int{1, 1}, api.OK)
	wantIdeal(t, 5, 2, []int{0, 1, 0, 0, 0}, api.OK)
}

func TestIdealAtTheEnds(t *testing.T) {
	for _, k := range []int{1, 2, 255, 4096, mostK - 1, mostK} {
		for _, scale := range []int{1, 65537, mostWeight} {
			right, err := saidIdeal(k, scale)
			wantIdeal(t, k, scale, right, err)
		}
	}
}

func TestIdealOfRanges(t *testing.T) {
	for _, k := range ks {
		for _, scale := range scales {
			if k < 1 || k > mostK || scale < 1 || scale > mostWeight {
				wantIdeal(t, k, scale, nil, api.ErrRange)
			}
		}
	}
}

// P13.3: the ideal soliton and a spike's share by a scale

// masses tells masses that a spike may have: of none, below 1, 1, above it, of many digits.
func masses() []*big.Rat {
	all := []*big.Rat{new(big.Rat), big.NewRat(1, 3), big.NewRat(1, 2), big.NewRat(5, 7), big.NewRat(1, 1), big.NewRat(9, 4), big.NewRat(100, 1), big.NewRat(1, math.MaxInt64)}
	third, _ := new(big.Rat).SetString("333333333333333333333333333333333333333333333333/1000000000000000000000000000000000000000000000000")
	return append(all, third)
}

func TestRobustAtSmall(t *testing.T) {
	for k := 1; k <= 7; k++ {
		for spike := 1; spike <= k; spike++ {
			for _, mass := range masses() {
				for scale := 1; scale <= 25; scale++ {
					right, err := saidRobust(k, scale, spike, mass)
					wantRobust(t, k, scale, spike, of(mass), right, err)
				}
			}
		}
	}
}

func TestRobustAtTheEnds(t *testing.T) {
	for _, k := range []int{1, 2, 300, mostK - 1, mostK} {
		for _, spike := range []int{1, (k + 1) / 2, min(k, 290), k} {
			scale := []int{1, 3, mostWeight / 2, mostWeight}[spike%4]
			right, err := saidRobust(k, scale, spike, big.NewRat(1, 3))
			wantRobust(t, k, scale, spike, pair(1, 3), right, err)
		}
	}
}

func TestRobustOfASpikeAtBothEnds(t *testing.T) {
	wantRobust(t, 4, 12, 1, pair(1, 4), []int{6, 6, 2, 1}, api.OK)
	wantRobust(t, 4, 12, 4, pair(1, 4), []int{6, 8, 3, 4}, api.OK)
	wantRobust(t, 1, 10, 1, pair(3, 10), []int{13}, api.OK)
	wantRobust(t, 2, 8, 2, pair(0, 1), []int{8, 4}, api.OK)
	wantRobust(t, 2, 8, 1, pair(2, 1), []int{20, 4}, api.OK)
}

func TestRobustOfNoughts(t *testing.T) {
	wantRobust(t, 4, 1, 1, pair(0, 1), nil, api.ErrTable)
	wantRobust(t, 4, 1, 1, pair(1, 4), nil, api.ErrTable)
	wantRobust(t, 4, 1, 1, pair(1, 3), []int{1, 0, 0, 0}, api.OK)
	wantRobust(t, 4, 1, 2, pair(0, 1), []int{1, 0, 0, 0}, api.OK)
	wantRobust(t, 4, 1, 4, pair(0, 1), []int{0, 1, 0, 0}, api.OK)
	wantRobust(t, 4, 1, 4, pair(1, 2), []int{0, 1, 0, 1}, api.OK)
	wantRobust(t, mostK, 1, 1, pair(1, 4), nil, api.ErrTable)
}

func TestRobustOfTheGreatestWeights(t *testing.T) {
	wantRobust(t, 1, mostWeight, 1, pair(0, 1), []int{mostWeight}, api.OK)
	wantRobust(t, 2, mostWeight, 2, pair(1, 2), []int{mostWeight, mostWeight}, api.OK)
	wantRobust(t, 2, mostWeight, 2, pair(2, 3), nil, api.ErrTable)
	wantRobust(t, 1, mostWeight, 1, pair(5, 1), nil, api.ErrTable)
	wantRobust(t, 1, mostWeight, 1, pair(1, mostWeight), nil, api.ErrTable)
	wantRobust(t, 1, mostWeight, 1, pair(1, mostWeight*3), []int{mostWeight}, api.OK)
	wantRobust(t, 1, 1, 1, pair(mostWeight-1, 1), []int{mostWeight}, api.OK)
	wantRobust(t, 1, 1, 1, pair(mostWeight, 1), nil, api.ErrTable)
	// From half a way to the even one: to what is too great for a table, and to what isn't.
	wantRobust(t, 1, 1, 1, pair(2*mostWeight-1, 2), nil, api.ErrTable)
	wantRobust(t, 1, 1, 1, pair(2*mostWeight-3, 2), []int{mostWeight - 1}, api.OK)
	wantRobust(t, 1, 1, 1, pair(3*mostWeight-2, 3), []int{mostWeight}, api.OK)
	// A weight may be the last one, or one between.
	wantRobust(t, 5, 1000, 3, pair(16777, 1), []int{533, 667, 16777167, 83, 50}, api.OK)
	wantRobust(t, 5, 1000, 3, pair(16778, 1), nil, api.ErrTable)
	wantRobust(t, 5, 1000, 5, pair(16777, 1), []int{400, 600, 233, 133, 16777050}, api.OK)
	wantRobust(t, 5, 1000, 5, pair(16778, 1), nil, api.ErrTable)
}

func TestRobustOfAFarMass(t *testing.T) {
	one := big.NewInt(1)
	for _, bits := range []uint{24, 31, 32, 40, 62, 63, 64, 65, 96, 127, 128, 1000, 20000} {
		far := new(big.Int).Lsh(one, bits)
		for _, up := range []*big.Int{far, new(big.Int).Sub(far, one), new(big.Int).Add(far, one)} {
			for _, down := range []*big.Int{one, big.NewInt(3), big.NewInt(1 << 20)} {
				mass := new(big.Rat).SetFrac(up, down)
				for _, spike := range []int{1, 2, 3} {
					right, err := saidRobust(3, 10, spike, mass)
					wantRobust(t, 3, 10, spike, of(mass), right, err)
					right, err = saidRobust(3, 1, spike, mass)
					wantRobust(t, 3, 1, spike, of(mass), right, err)
				}
			}
		}
		// One that is as near to 0 as that was far.
		mass := new(big.Rat).SetFrac(one, far)
		right, err := saidRobust(3, mostWeight, 2, mass)
		wantRobust(t, 3, mostWeight, 2, of(mass), right, err)
	}
}

func TestRobustOfWhatIsNoFraction(t *testing.T) {
	for _, none := range nones() {
		for _, k := range []int{math.MinInt, -1, 0, 1, 3, mostK, mostK + 1, math.MaxInt} {
			for _, scale := range []int{-1, 0, 1, mostWeight, mostWeight + 1} {
				for _, spike := range []int{-1, 0, 1, k, k + 1} {
					wantRobust(t, k, scale, spike, none, nil, api.ErrForm)
				}
			}
		}
	}
}

func TestRobustOfRanges(t *testing.T) {
	for _, mass := range []api.Ratio{pair(0, 1), pair(1, 4), pair(-1, 4), pair(math.MaxInt64, 1)} {
		for _, k := range ks {
			for _, scale := range scales {
				if k < 1 || k > mostK || scale < 1 || scale > mostWeight {
					wantRobust(t, k, scale, 1, mass, nil, api.ErrRange)
					wantRobust(t, k, scale, k, mass, nil, api.ErrRange)
				}
			}
		}
	}
}

func TestRobustOfSpikes(t *testing.T) {
	for _, k := range []int{1, 2, 3, 100, mostK} {
		for _, spike := range []int{math.MinInt, -mostK, -k, -1, 0, k + 1, k + 2, 2*k + 1, mostK + 1, 1<<32 + 1, math.MaxInt} {
			wantRobust(t, k, 60, spike, pair(0, 1), nil, api.ErrRange)
			wantRobust(t, k, 60, spike, pair(1, 4), nil, api.ErrRange)
			wantRobust(t, k, 1, spike, pair(math.MaxInt64, 1), nil, api.ErrRange)
		}
	}
}

func TestRobustOfMassesBelowNothing(t *testing.T) {
	far := new(big.Int).Lsh(big.NewInt(1), 200)
	below := []api.Ratio{
		pair(-1, 1), pair(-1, 4), pair(-1, 1000000), pair(-9, 2), pair(math.MinInt64, 1), pair(-1, math.MaxInt64),
		of(new(big.Rat).SetFrac(big.NewInt(-1), far)), of(new(big.Rat).SetFrac(new(big.Int).Neg(far), big.NewInt(1))),
	}
	for _, mass := range below {
		for k := 1; k <= 4; k++ {
			for spike := 1; spike <= k; spike++ {
				wantRobust(t, k, 60, spike, mass, nil, api.ErrRange)
				wantRobust(t, k, 1, spike, mass, nil, api.ErrRange)
			}
		}
	}
}

// P13.4: the mean degree

func TestMeanOfOneDegree(t *testing.T) {
	for _, n := range []int{1, 2, 3, 64, 1000, mostK - 1, mostK} {
		table := make([]int, n)
		for _, at := range []int{0, n / 2, n - 1} {
			for _, weight := range []int{1, 2, mostWeight} {
				table[at] = weight
				wantMean(t, table, big.NewRat(int64(at+1), 1))
				table[at] = 0
			}
		}
	}
}

func TestMeanOfEqualWeights(t *testing.T) {
	for _, n := range []int{1, 2, 3, 4, 99, 100, mostK - 1, mostK} {
		for _, weight := range []int{1, 3, mostWeight} {
			wantMean(t, slices.Repeat([]int{weight}, n), big.NewRat(int64(n+1), 2))
		}
	}
}

func TestMean(t *testing.T) {
	wantMean(t, []int{1, 0, 1}, big.NewRat(2, 1))
	wantMean(t, []int{2, 1}, big.NewRat(4, 3))
	wantMean(t, []int{20, 30, 10}, big.NewRat(11, 6))
	wantMean(t, []int{mostWeight, 1}, big.NewRat(mostWeight+2, mostWeight+1))
	wantMean(t, []int{1, mostWeight}, big.NewRat(2*mostWeight+1, mostWeight+1))
	wantMean(t, []int{0, 0, 5, 0}, big.NewRat(3, 1))
}

func TestMeanOfNoTable(t *testing.T) {
	wantNoMean(t, []int{})
	for _, n := range []int{1, 2, 100, mostK, mostK + 1} {
		wantNoMean(t, make([]int, n))
	}
	wantNoMean(t, slices.Repeat([]int{1}, mostK+1))
	wantNoMean(t, slices.Repeat([]int{mostWeight}, mostK+1))
	for _, n := range []int{1, 2, 3, mostK} {
		for _, weight := range []int{math.MinInt, -1, mostWeight + 1, 1<<32 + 1, math.MaxInt} {
			for _, at := range []int{0, n / 2, n - 1} {
				table := slices.Repeat([]int{2}, n)
				table[at] = weight
				wantNoMean(t, table)
			}
		}
	}
}
