package soliton

import (
	"math"
	"math/big"
	"math/rand/v2"
	"slices"
	"testing"

	"artesian/api"
	"artesian/loan"
)

// behind and digitsBehind are what stands in the spare room of what is handed in, and must be found there again.
const (
	behind       = 0x5a5a
	digitsBehind = 0x5a5a5a
)

// someTable tells a table of at most most weights.
func someTable(r *rand.Rand, most int) []int {
	table := make([]int, r.IntN(most)+1)
	greatest := []int{1, 5, 1000, mostWeight}[r.IntN(4)]
	for i := range table {
		table[i] = r.IntN(greatest+1) * r.IntN(2)
	}
	table[r.IntN(len(table))] = r.IntN(greatest) + 1
	return table
}

// someMass tells a mass that a spike may have.
func someMass(r *rand.Rand) *big.Rat {
	up, down := r.Int64N(1<<r.IntN(20)+1), r.Int64N(1<<r.IntN(40))+1
	return big.NewRat(up, down)
}

// someScale tells a scale, a small one as often as any.
func someScale(r *rand.Rand) int {
	return r.IntN(mostWeight>>r.IntN(24)) + 1
}

// spread tells the weights that Robust must answer.
func spread(t *testing.T, k, scale, spike int, mass *big.Rat) ([]int, bool) {
	t.Helper()
	table, err := Robust(k, scale, spike, of(mass))
	if err != api.OK && err != api.ErrTable {
		t.Fatalf("Robust(%d, %d, %d, %v): %v", k, scale, spike, mass, err)
	}
	return table, err == api.OK
}

// wantNear fails if weights are not half away from scale times their shares at most.
func wantNear(t *testing.T, table []int, scale int, share func(degree int) *big.Rat) {
	t.Helper()
	half := big.NewRat(1, 2)
	for i, weight := range table {
		exact := scaled(scale, share(i+1))
		away := new(big.Rat).Sub(big.NewRat(int64(weight), 1), exact)
		if away.Abs(away).Cmp(half) > 0 {
			t.Errorf("by the scale %d the degree %d has the weight %d, and %v is its share", scale, i+1, weight, exact)
		}
	}
}

// P13.5: a weight is half away from scale times its share at most

func TestWeightsAreNear(t *testing.T) {
	source := rand.New(rand.NewPCG(1301, 1302))
	tables := 0
	for range 3000 {
		k, scale := source.IntN(60)+1, someScale(source)
		if table, err := Ideal(k, scale); err == api.OK {
			wantNear(t, table, scale, func(degree int) *big.Rat { return idealShare(k, degree) })
		}
		spike, mass := source.IntN(k)+1, someMass(source)
		right, rightErr := saidRobust(k, scale, spike, mass)
		wantRobust(t, k, scale, spike, of(mass), right, rightErr)
		if table, ok := spread(t, k, scale, spike, mass); ok {
			tables++
			wantNear(t, table, scale, func(degree int) *big.Rat { return robustShare(k, spike, mass, degree) })
		}
	}
	if tables < 1500 || tables == 3000 {
		t.Errorf("%d of the answers were tables", tables)
	}
}

// P13.5: where scale times each share is whole, the ideal soliton's total is the scale

// least tells the least scale by which each ideal share of k is whole.
func least(k int) int {
	scale := k
	for degree := 2; degree <= k; degree++ {
		step := scale
		for scale%(degree*(degree-1)) != 0 {
			scale += step
		}
	}
	return scale
}

func TestIdealTotalIsTheScale(t *testing.T) {
	for k := 1; k <= 16; k++ {
		for times := range 40 {
			scale := least(k) * (times + 1)
			if scale > mostWeight {
				break
			}
			table, err := Ideal(k, scale)
			if err != api.OK {
				t.Fatalf("Ideal(%d, %d): %v", k, scale, err)
			}
			wantTotal(t, table, scale)
			// Of degrees with just those shares the mean is 1 + 1/2 + .. + 1/k.
			mean := new(big.Rat)
			for n := 1; n <= k; n++ {
				mean.Add(mean, big.NewRat(1, int64(n)))
			}
			wantMean(t, table, mean)
		}
	}
}

// P13.5: the robust table is the ideal one, and something more at the degrees up to the spike

func TestRobustIsTheIdealAndMore(t *testing.T) {
	source := rand.New(rand.NewPCG(1303, 1304))
	for range 2000 {
		k, scale := source.IntN(50)+1, someScale(source)
		spike, mass := source.IntN(k)+1, someMass(source)
		ideal, err := Ideal(k, scale)
		robust, ok := spread(t, k, scale, spike, mass)
		if err != api.OK || !ok {
			continue
		}
		for i, weight := range robust {
			// What is less than 2 may be lost where both are rounded.
			much := scaled(scale, spikeShare(spike, mass, i+1)).Cmp(big.NewRat(2, 1)) >= 0
			if weight < ideal[i] || much && weight == ideal[i] || i+1 > spike && weight != ideal[i] {
				t.Errorf("by the scale %d, the spike %d and the mass %v, the degree %d has the weight %d, by itself %d", scale, spike, mass, i+1, weight, ideal[i])
			}
		}
	}
}

func TestRobustOfNoMassIsTheIdeal(t *testing.T) {
	for _, k := range []int{1, 2, 3, 4, 5, 17, 100, 1000, 5000} {
		for _, scale := range []int{1, 2, 3, 60, 1001, mostWeight} {
			right, err := Ideal(k, scale)
			wantRobust(t, k, scale, 1, api.Ratio{Down: api.Nat{1}}, right, err)
		}
	}
}

func TestWhatIsToldIsATable(t *testing.T) {
	for k := 1; k <= 40; k++ {
		for _, scale := range []int{1, 2, 3, 10, 1000, mostWeight} {
			if table, err := Ideal(k, scale); err == api.OK {
				wantCheck(t, table, k, api.OK)
				wantCheck(t, table, k-1, api.ErrTable)
			}
			for spike := 1; spike <= k; spike++ {
				if table, ok := spread(t, k, scale, spike, big.NewRat(1, 9)); ok {
					wantCheck(t, table, k, api.OK)
					wantCheck(t, table, k-1, api.ErrTable)
				}
			}
		}
	}
}

// P13.5: a mean is from 1 to the table's length

func TestMeanIsWithinTheTable(t *testing.T) {
	source := rand.New(rand.NewPCG(1305, 1306))
	for range 3000 {
		table := someTable(source, 300)
		wantCheck(t, table, 300, api.OK)
		all, total := new(big.Int), new(big.Int)
		for i, weight := range table {
			all.Add(all, big.NewInt(int64(weight)*int64(i+1)))
			total.Add(total, big.NewInt(int64(weight)))
		}
		mean := new(big.Rat).SetFrac(all, total)
		if mean.Cmp(big.NewRat(1, 1)) < 0 || mean.Cmp(big.NewRat(int64(len(table)), 1)) > 0 {
			t.Fatalf("the mean of %v is %v", table, mean)
		}
		wantMean(t, table, mean)
		wantTotal(t, table, int(total.Int64()))
	}
}

func TestMeanHangsOnNoFactor(t *testing.T) {
	source := rand.New(rand.NewPCG(1307, 1308))
	for range 500 {
		table := someTable(source, 50)
		right, _ := Mean(table)
		factor := mostWeight / slices.Max(table)
		for i := range table {
			table[i] *= factor
		}
		// Weights of 0 behind the last one tell of degrees that are never drawn.
		table = append(table, make([]int, source.IntN(9))...)
		if got, err := Mean(table); err != api.OK || !same(got, right) {
			t.Errorf("Mean(%v): got %v, %v, want %v", brief(table), got, err, right)
		}
	}
}

func TestTotalHangsOnNoOrder(t *testing.T) {
	source := rand.New(rand.NewPCG(1309, 1310))
	for range 500 {
		list := make([]int, source.IntN(40))
		for i := range list {
			list[i] = int(source.Uint64())
		}
		at := source.IntN(len(list) + 1)
		all := Total(list)
		if parts := Total(list[:at]) + Total(list[at:]); all != parts {
			t.Errorf("Total(%v): %d, its parts' %d", list, all, parts)
		}
		slices.Sort(list)
		wantTotal(t, list, all)
	}
}

// Rule 1: the first error that a promise names

func TestTheFirstErrorIsTold(t *testing.T) {
	for _, scale := range []int{-1, 0, mostWeight + 1} {
		// No table comes of it either, but the scale is named ahead.
		wantIdeal(t, 4, scale, nil, api.ErrRange)
		wantRobust(t, 4, scale, 1, pair(math.MaxInt64, 1), nil, api.ErrRange)
	}
	for _, none := range nones() {
		wantRobust(t, 4, 1, 1, none, nil, api.ErrForm)
		wantRobust(t, 0, 0, 0, none, nil, api.ErrForm)
		wantRobust(t, 4, 1, 5, none, nil, api.ErrForm)
	}
	wantRobust(t, 4, 1, 1, pair(-1, 4), nil, api.ErrRange)
	wantRobust(t, 4, 1, 0, pair(0, 1), nil, api.ErrRange)
	wantRobust(t, 4, 1, 5, pair(0, 1), nil, api.ErrRange)
}

// Rule 4: an answer is new memory, and what was handed in stays as it was and is not kept

func TestTablesStay(t *testing.T) {
	tables := [][]int{nil, {0}, {5}, {1, 3}, {1, -1}, {0, 0, 7}, {mostWeight + 1}, slices.Repeat([]int{3}, 1000), slices.Repeat([]int{1}, mostK), slices.Repeat([]int{1}, mostK+1)}
	for _, table := range tables {
		lent := loan.Of(table, behind)
		check, total := Check(lent, mostK), Total(lent)
		mean, err := Mean(lent)
		again, _ := Mean(lent)
		loan.Scribble(again.Up.N, 9)
		loan.Scribble(again.Down, 9)
		if loan.Touched(lent, table, behind) {
			t.Errorf("%v was changed", brief(table))
		}
		loan.Scribble(lent, -1)
		other, otherErr := Mean(table)
		if err != otherErr || !same(mean, other) || Check(table, mostK) != check || Total(table) != total {
			t.Errorf("%v: another answer behind the first one", brief(table))
		}
	}
}

func TestMassesStay(t *testing.T) {
	masses := []api.Ratio{pair(0, 1), pair(1, 4), pair(7, 3), pair(-1, 4), {}, raw(false, api.Nat{2}, api.Nat{4}), raw(false, api.Nat{1, 0}, api.Nat{3})}
	masses = append(masses, of(new(big.Rat).SetFrac(new(big.Int).Lsh(big.NewInt(3), 200), new(big.Int).Lsh(big.NewInt(1), 190))))
	for _, mass := range masses {
		for spike := 0; spike <= 5; spike++ {
			lent := raw(mass.Up.Below, loan.Of(mass.Up.N, digitsBehind), loan.Of(mass.Down, digitsBehind))
			right, rightErr := Robust(4, 60, spike, mass)
			got, err := Robust(4, 60, spike, lent)
			if err != rightErr || !slices.Equal(got, right) {
				t.Errorf("Robust(4, 60, %d, %v): spare room was read", spike, mass)
			}
			if loan.Touched(lent.Up.N, mass.Up.N, digitsBehind) || loan.Touched(lent.Down, mass.Down, digitsBehind) {
				t.Errorf("Robust(4, 60, %d, %v): the mass was changed", spike, mass)
			}
			loan.Scribble(lent.Up.N, 77)
			loan.Scribble(lent.Down, 77)
			if !slices.Equal(got, right) {
				t.Errorf("Robust(4, 60, %d, %v): the mass was kept", spike, mass)
			}
			wantRobust(t, 4, 60, spike, mass, right, rightErr)
		}
	}
}

func TestAnswersShareNothing(t *testing.T) {
	first, _ := Ideal(4, 12)
	second, _ := Ideal(4, 12)
	loan.Scribble(first, -1)
	wantTotal(t, second, 12)
	wantIdeal(t, 4, 12, []int{3, 6, 2, 1}, api.OK)
	first, _ = Robust(4, 12, 2, pair(1, 3))
	second, _ = Robust(4, 12, 2, pair(1, 3))
	loan.Scribble(first, -1)
	wantTotal(t, second, 22)
	wantRobust(t, 4, 12, 2, pair(1, 3), []int{9, 10, 2, 1}, api.OK)
	one, _ := Mean([]int{1, 3})
	two, _ := Mean([]int{1, 3})
	loan.Scribble(one.Up.N, 9)
	loan.Scribble(one.Down, 9)
	if !same(two, pair(7, 4)) {
		t.Errorf("two answers of Mean share memory: %v", two)
	}
	wantMean(t, []int{1, 3}, big.NewRat(7, 4))
}
