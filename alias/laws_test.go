package alias

import (
	"math"
	"math/rand/v2"
	"slices"
	"testing"

	"artesian/api"
	"artesian/loan"
)

// behind is what stands in the spare room of what is handed in, and must be found there again.
const behind = 0x5a5a

// someTable tells a table of at most most weights.
func someTable(r *rand.Rand, most int) []int {
	table := make([]int, r.IntN(most)+1)
	greatest := []int{1, 2, 5, 1000, mostWeight}[r.IntN(5)]
	for i := range table {
		table[i] = r.IntN(greatest+1) * r.IntN(2)
	}
	table[r.IntN(len(table))] = r.IntN(greatest) + 1
	return table
}

// someAlias tells an alias that may be, of few columns.
func someAlias(r *rand.Rand) api.Alias {
	m := r.IntN(6) + 1
	a := api.Alias{Total: r.IntN(20) + 1, Cut: make([]int, m), Other: make([]int, m)}
	for i := range m {
		a.Cut[i], a.Other[i] = r.IntN(a.Total+1), r.IntN(m)
	}
	return a
}

// made tells a table's alias, where there must be one.
func made(t *testing.T, table []int) api.Alias {
	t.Helper()
	a, err := Make(table)
	if err != api.OK {
		t.Fatalf("Make(%v) of %d: %v", brief(table), len(table), err)
	}
	return a
}

// weightsOf tells of how many columns and levels each place is said, column by column.
func weightsOf(a api.Alias) []int {
	all := make([]int, len(a.Cut))
	for column, cut := range a.Cut {
		all[column] += cut
		all[a.Other[column]] += a.Total - cut
	}
	return all
}

// wantFair fails if an alias doesn't say each place as often as its weight is, times how many there are.
func wantFair(t *testing.T, a api.Alias, table []int) {
	t.Helper()
	for i, said := range weightsOf(a) {
		if said != table[i]*len(table) {
			t.Fatalf("the alias of %v says the place %d in %d ways", brief(table), i, said)
		}
	}
}

// P14.1: a table's alias, of many weights

func TestMakeOfSome(t *testing.T) {
	source := rand.New(rand.NewPCG(1401, 1402))
	for range 3000 {
		table := someTable(source, 40)
		wantMake(t, table, aliasOf(table))
	}
	for range 20 {
		table := someTable(source, 1500)
		wantMake(t, table, aliasOf(table))
	}
}

func TestMakeOfManyEndsSoon(t *testing.T) {
	rising, falling, turns := make([]int, mostK), make([]int, mostK), make([]int, mostK)
	for i := range mostK {
		rising[i], falling[i], turns[i] = i, mostK-i, i%2*mostWeight
	}
	source := rand.New(rand.NewPCG(1403, 1404))
	random := someTable(source, 1)
	for len(random) < mostK {
		random = append(random, source.IntN(mostWeight+1))
	}
	for _, table := range [][]int{rising, falling, turns, random} {
		a := made(t, table)
		wantCheck(t, a, api.OK)
		wantFair(t, a, table)
	}
}

func TestWhatIsMadeMayBe(t *testing.T) {
	source := rand.New(rand.NewPCG(1405, 1406))
	for range 500 {
		wantCheck(t, made(t, someTable(source, 300)), api.OK)
	}
}

// P14.2: what others that may be say

func TestPickAndWeightOfSome(t *testing.T) {
	source := rand.New(rand.NewPCG(1407, 1408))
	for range 500 {
		wantAll(t, someAlias(source))
	}
}

func TestWeightsComeToAll(t *testing.T) {
	source := rand.New(rand.NewPCG(1409, 1410))
	for range 1000 {
		a := someAlias(source)
		// A factor makes the levels too many to go through them.
		factor := source.IntN(mostTotal/a.Total) + 1
		a.Total *= factor
		for i := range a.Cut {
			a.Cut[i] *= factor
		}
		all := 0
		for i, right := range weightsOf(a) {
			wantWeight(t, a, i, right, api.OK)
			all += right
		}
		if all != len(a.Cut)*a.Total {
			t.Fatalf("the weights of %v come to %d", a, all)
		}
	}
}

// P14.3: each place is said just as its weight is to the total

func TestTablesAreDrawnExactly(t *testing.T) {
	for m := 1; m <= 4; m++ {
		every(m, 5, func(table []int) {
			if !isTableOf(table) {
				return
			}
			a := made(t, table)
			wantAll(t, a)
			for i, weight := range table {
				wantWeight(t, a, i, weight*m, api.OK)
			}
		})
	}
}

func TestSomeTablesAreDrawnExactly(t *testing.T) {
	source := rand.New(rand.NewPCG(1411, 1412))
	for range 300 {
		table := someTable(source, 120)
		a := made(t, table)
		all := 0
		for i, weight := range table {
			wantWeight(t, a, i, weight*len(table), api.OK)
			all += weight * len(table)
		}
		if all != len(table)*a.Total {
			t.Errorf("%v: the total is %d", brief(table), a.Total)
		}
	}
}

func TestTheGreatestTablesAreDrawnExactly(t *testing.T) {
	table := slices.Repeat([]int{mostWeight}, mostK)
	for i := range mostK / 4 {
		table[3*i] = i
	}
	a := made(t, table)
	wantFair(t, a, table)
	for _, i := range []int{0, 1, 2, 3, mostK / 2, mostK - 2, mostK - 1} {
		wantWeight(t, a, i, table[i]*mostK, api.OK)
	}
}

// Rule 1: the first error that a promise names

func TestTheFirstErrorIsTold(t *testing.T) {
	for _, a := range noForms() {
		// No column or level could be in any range either, but what may not be is named ahead.
		wantPick(t, a, -1, -1, 0, api.ErrForm)
		wantPick(t, a, math.MaxInt, 0, 0, api.ErrForm)
		wantPick(t, a, 0, math.MinInt, 0, api.ErrForm)
		wantWeight(t, a, -1, 0, api.ErrForm)
		wantWeight(t, a, math.MaxInt, 0, api.ErrForm)
	}
}

// Rule 4: an answer is new memory, and what was handed in stays as it was and is not kept

func TestTablesStay(t *testing.T) {
	tables := [][]int{nil, {0}, {5}, {1, 3}, {1, -1}, {0, 0, 7}, {0, 0, 2, 2, 1}, {mostWeight + 1}, slices.Repeat([]int{3, 0, 4}, 1000), slices.Repeat([]int{1}, mostK+1)}
	for _, table := range tables {
		right, rightErr := Make(table)
		lent := loan.Of(table, behind)
		got, err := Make(lent)
		if err != rightErr || !same(got, right) {
			t.Errorf("Make(%v): spare room was read", brief(table))
		}
		if loan.Touched(lent, table, behind) {
			t.Errorf("Make(%v): the table was changed", brief(table))
		}
		loan.Scribble(lent, 77)
		if !same(got, right) {
			t.Errorf("Make(%v): the table was kept", brief(table))
		}
		loan.Scribble(got.Cut, -1)
		loan.Scribble(got.Other, -1)
		if loan.Touched(lent, slices.Repeat([]int{77}, len(table)), 77) {
			t.Errorf("Make(%v): the alias is in the table's memory", brief(table))
		}
		again, _ := Make(table)
		if !same(again, right) {
			t.Errorf("Make(%v): another answer behind the first one", brief(table))
		}
	}
}

func TestAliasesStay(t *testing.T) {
	aliases := append(noForms(), api.Alias{Total: 4, Cut: []int{2, 4}, Other: []int{1, 1}}, api.Alias{Total: 9, Cut: []int{4, 9, 0, 8}, Other: []int{3, 0, 1, 2}})
	for _, a := range aliases {
		lent := api.Alias{Total: a.Total, Cut: loan.Of(a.Cut, behind), Other: loan.Of(a.Other, behind)}
		wantCheck(t, lent, Check(a))
		for i := -1; i < 5; i++ {
			right, rightErr := Weight(a, i)
			wantWeight(t, lent, i, right, rightErr)
			for level := -1; level < 10; level++ {
				right, rightErr = Pick(a, i, level)
				wantPick(t, lent, i, level, right, rightErr)
			}
		}
		if loan.Touched(lent.Cut, a.Cut, behind) || loan.Touched(lent.Other, a.Other, behind) {
			t.Errorf("%v was changed", short(a))
		}
	}
}

func TestAliasesAreNotKept(t *testing.T) {
	a := api.Alias{Total: 9, Cut: []int{4, 9, 0, 8}, Other: []int{3, 0, 1, 2}}
	wantCheck(t, a, api.OK)
	wantPick(t, a, 0, 4, 3, api.OK)
	wantWeight(t, a, 3, 13, api.OK)
	a.Cut[0], a.Other[0] = 5, 2
	wantPick(t, a, 0, 4, 0, api.OK)
	wantPick(t, a, 0, 5, 2, api.OK)
	wantWeight(t, a, 3, 8, api.OK)
	wantWeight(t, a, 2, 5, api.OK)
	a.Other[3] = 4
	wantCheck(t, a, api.ErrForm)
	wantPick(t, a, 0, 4, 0, api.ErrForm)
	wantWeight(t, a, 3, 0, api.ErrForm)
}

func TestAnswersShareNothing(t *testing.T) {
	for _, table := range [][]int{{5}, {1, 3}, {2, 2}, {0, 0, 2, 2, 1}, slices.Repeat([]int{0, 1, 2}, 100)} {
		first, second := made(t, table), made(t, table)
		loan.Scribble(first.Cut, -1)
		if !slices.Equal(first.Other, second.Other) {
			t.Errorf("the cuts and the others of %v share memory", brief(table))
		}
		loan.Scribble(first.Other, -1)
		if !slices.Equal(first.Cut, slices.Repeat([]int{-1}, len(table))) || !same(second, aliasOf(table)) {
			t.Errorf("two aliases of %v share memory", brief(table))
		}
		wantMake(t, table, aliasOf(table))
	}
}
