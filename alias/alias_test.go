package alias

import (
	"math"
	"slices"
	"testing"

	"artesian/api"
)

// The greatest that there may be of each thing, as the chapter writes them.
const (
	mostK      = 65536
	mostWeight = 16777215
	mostTotal  = 1099511627776
)

// weights are numbers about the ends of what a weight may be, and the ends of all.
var weights = []int{math.MinInt, -mostWeight - 1, -2, -1, 0, 1, 2, mostWeight - 1, mostWeight, mostWeight + 1, 1<<32 + 1, math.MaxInt}

// isTableOf tells whether weights are a table, by the chapter's words.
func isTableOf(table []int) bool {
	if len(table) < 1 || len(table) > mostK {
		return false
	}
	for _, weight := range table {
		if weight < 0 || weight > mostWeight {
			return false
		}
	}
	return slices.ContainsFunc(table, func(weight int) bool { return weight != 0 })
}

// mayBe tells whether an alias may be, by the chapter's words.
func mayBe(a api.Alias) bool {
	if a.Total < 1 || a.Total > mostTotal || len(a.Cut) != len(a.Other) || len(a.Cut) < 1 || len(a.Cut) > mostK {
		return false
	}
	wrongCut := slices.ContainsFunc(a.Cut, func(cut int) bool { return cut < 0 || cut > a.Total })
	wrongOther := slices.ContainsFunc(a.Other, func(other int) bool { return other < 0 || other >= len(a.Cut) })
	return !wrongCut && !wrongOther
}

// aliasOf tells a table's alias, step by step by the chapter's words.
func aliasOf(table []int) api.Alias {
	m, total := len(table), 0
	rests, done := make([]int, m), make([]bool, m)
	for i, weight := range table {
		total += weight
		rests[i] = m * weight
	}
	a := api.Alias{Total: total, Cut: make([]int, m), Other: make([]int, m)}
	for {
		i := leastWhere(m, func(i int) bool { return !done[i] && rests[i] < total })
		if i == m {
			break
		}
		a.Cut[i] = rests[i]
		a.Other[i] = leastWhere(m, func(i int) bool { return rests[i] > total })
		rests[a.Other[i]] -= total - rests[i]
		done[i] = true
	}
	for i := range m {
		if !done[i] {
			a.Cut[i], a.Other[i] = total, i
		}
	}
	return a
}

// leastWhere tells the least number below m of which something holds, or m.
func leastWhere(m int, holds func(i int) bool) int {
	i := 0
	for i < m && !holds(i) {
		i++
	}
	return i
}

// place tells what a column says at a level, by the chapter's words.
func place(a api.Alias, column, level int) int {
	if level < a.Cut[column] {
		return column
	}
	return a.Other[column]
}

// counted tells of how many of all columns and levels each place is said, one by one.
func counted(a api.Alias) []int {
	count := make([]int, len(a.Cut))
	for column := range a.Cut {
		for level := range a.Total {
			count[place(a, column, level)]++
		}
	}
	return count
}

// same tells whether two aliases are one, field by field.
func same(a, b api.Alias) bool {
	return a.Total == b.Total && slices.Equal(a.Cut, b.Cut) && slices.Equal(a.Other, b.Other)
}

// brief tells numbers, of many of them only both ends.
func brief(list []int) []int {
	if len(list) > 40 {
		return slices.Concat(list[:20], list[len(list)-20:])
	}
	return list
}

// short tells an alias, of many columns only both ends.
func short(a api.Alias) api.Alias {
	return api.Alias{Total: a.Total, Cut: brief(a.Cut), Other: brief(a.Other)}
}

// every goes through all lists of n numbers from 0 to most, one list that changes.
func every(n, most int, try func(list []int)) {
	list := make([]int, n)
	for {
		try(list)
		i := 0
		for i < n && list[i] == most {
			list[i] = 0
			i++
		}
		if i == n {
			return
		}
		list[i]++
	}
}

// wantMake fails if a table's alias isn't just that.
func wantMake(t *testing.T, table []int, right api.Alias) {
	t.Helper()
	if got, err := Make(table); err != api.OK || !same(got, right) {
		t.Errorf("Make(%v) of %d: got %v, %v, want %v", brief(table), len(table), short(got), err, short(right))
	}
}

// wantNoMake fails if what is no table has an alias, or if beside the error something is told.
func wantNoMake(t *testing.T, table []int) {
	t.Helper()
	if got, err := Make(table); err != api.ErrTable || !same(got, api.Alias{}) {
		t.Errorf("Make(%v) of %d: got %v, %v, want ErrTable", brief(table), len(table), short(got), err)
	}
}

// wantCheck fails if Check doesn't answer just that.
func wantCheck(t *testing.T, a api.Alias, right api.Errno) {
	t.Helper()
	if got := Check(a); got != right {
		t.Errorf("Check(%v) of %d and %d: got %v, want %v", short(a), len(a.Cut), len(a.Other), got, right)
	}
}

// wantPick fails if Pick doesn't answer just that place, or just that error and 0 beside it.
func wantPick(t *testing.T, a api.Alias, column, level, right int, rightErr api.Errno) {
	t.Helper()
	if got, err := Pick(a, column, level); err != rightErr || got != right {
		t.Errorf("Pick(%v, %d, %d): got %d, %v, want %d, %v", short(a), column, level, got, err, right, rightErr)
	}
}

// wantWeight fails if Weight doesn't answer just that number, or just that error and 0 beside it.
func wantWeight(t *testing.T, a api.Alias, i, right int, rightErr api.Errno) {
	t.Helper()
	if got, err := Weight(a, i); err != rightErr || got != right {
		t.Errorf("Weight(%v, %d): got %d, %v, want %d, %v", short(a), i, got, err, right, rightErr)
	}
}

// The chapter's table of examples

func TestExamples(t *testing.T) {
	first := api.Alias{Total: 4, Cut: []int{2, 4}, Other: []int{1, 1}}
	wantMake(t, []int{1, 3}, first)
	wantMake(t, []int{0, 5}, api.Alias{Total: 5, Cut: []int{0, 5}, Other: []int{1, 1}})
	wantMake(t, []int{2, 2}, api.Alias{Total: 4, Cut: []int{4, 4}, Other: []int{0, 1}})
	wantPick(t, first, 0, 1, 0, api.OK)
	wantPick(t, first, 0, 2, 1, api.OK)
	wantPick(t, first, 1, 3, 1, api.OK)
	wantPick(t, first, 2, 0, 0, api.ErrRange)
	wantPick(t, first, 0, 4, 0, api.ErrRange)
	wantWeight(t, first, 0, 2, api.OK)
	wantWeight(t, first, 1, 6, api.OK)
	wantNoMake(t, nil)
	wantNoMake(t, []int{0, 0})
	wantNoMake(t, []int{1 << 24})
	wantCheck(t, api.Alias{}, api.ErrForm)
}

// P14.1: what is a table

func TestMakeOfLengths(t *testing.T) {
	wantNoMake(t, nil)
	wantNoMake(t, []int{})
	for _, m := range []int{1, 2, 3, 10, 1000, mostK - 1, mostK} {
		even := api.Alias{Total: 3 * m, Cut: slices.Repeat([]int{3 * m}, m), Other: make([]int, m)}
		for i := range m {
			even.Other[i] = i
		}
		wantMake(t, slices.Repeat([]int{3}, m), even)
	}
	wantNoMake(t, slices.Repeat([]int{3}, mostK+1))
	wantNoMake(t, slices.Repeat([]int{3}, 2*mostK))
	wantNoMake(t, make([]int, mostK+1))
}

func TestMakeOfWeights(t *testing.T) {
	for _, m := range []int{1, 2, 3, 7} {
		for _, at := range []int{0, m / 2, m - 1} {
			for _, weight := range weights {
				table := slices.Repeat([]int{1}, m)
				table[at] = weight
				if isTableOf(table) {
					wantMake(t, table, aliasOf(table))
				} else {
					wantNoMake(t, table)
				}
			}
		}
	}
}

func TestMakeOfAWrongWeightAmongMany(t *testing.T) {
	for _, at := range []int{0, mostK / 2, mostK - 1} {
		for _, weight := range []int{math.MinInt, -1, mostWeight + 1, math.MaxInt} {
			table := slices.Repeat([]int{1}, mostK)
			table[at] = weight
			wantNoMake(t, table)
		}
	}
	// What is no weight is none, also where all together are 0, or not 0.
	wantNoMake(t, []int{1, -1})
	wantNoMake(t, []int{5, -1})
	wantNoMake(t, []int{0, mostWeight + 1, 0})
	wantNoMake(t, []int{math.MinInt, math.MinInt, 1})
}

func TestMakeOfNoughts(t *testing.T) {
	for _, m := range []int{1, 2, 3, 100, mostK} {
		wantNoMake(t, make([]int, m))
	}
}

// P14.1: a table's alias

func TestMakeOfOne(t *testing.T) {
	for _, weight := range []int{1, 2, 7, mostWeight - 1, mostWeight} {
		wantMake(t, []int{weight}, api.Alias{Total: weight, Cut: []int{weight}, Other: []int{0}})
	}
}

func TestMakeByHand(t *testing.T) {
	// Several columns wait with one rest, and several places are above the total: the least ones come first.
	wantMake(t, []int{1, 1, 3, 3}, api.Alias{Total: 8, Cut: []int{4, 4, 8, 8}, Other: []int{2, 3, 2, 3}})
	wantMake(t, []int{0, 0, 2, 2, 1}, api.Alias{Total: 5, Cut: []int{0, 0, 5, 5, 5}, Other: []int{2, 3, 2, 3, 4}})
	// It is the least column, not the least rest, and the least place, not the greatest rest.
	wantMake(t, []int{1, 0, 3, 4}, api.Alias{Total: 8, Cut: []int{4, 0, 8, 8}, Other: []int{2, 3, 2, 3}})
	// The place 0 falls below the total, and is filled up ahead of greater columns that wait.
	wantMake(t, []int{3, 3, 4, 2, 0, 0}, api.Alias{Total: 12, Cut: []int{6, 12, 12, 12, 0, 0}, Other: []int{1, 1, 2, 3, 0, 2}})
	wantMake(t, []int{4, 4, 1, 0, 1, 2}, api.Alias{Total: 12, Cut: []int{6, 12, 6, 0, 6, 12}, Other: []int{1, 1, 0, 0, 1, 5}})
	// The places 3 and 4 fall below it while lesser columns wait.
	wantMake(t, []int{2, 0, 0, 3, 3, 4}, api.Alias{Total: 12, Cut: []int{12, 0, 0, 6, 6, 12}, Other: []int{0, 3, 4, 5, 5, 5}})
	// The place 0, and then 4, falls to just the total: it gives no more, and takes nothing.
	wantMake(t, []int{4, 0, 0, 0, 4, 4}, api.Alias{Total: 12, Cut: []int{12, 0, 0, 0, 12, 12}, Other: []int{0, 0, 4, 5, 4, 5}})
	// The place 0 falls to the total first, and below it by the next column.
	wantMake(t, []int{3, 1, 4, 0, 0}, api.Alias{Total: 8, Cut: []int{4, 5, 8, 0, 0}, Other: []int{2, 0, 2, 0, 2}})
	// One gives to all others, but to the one that is just the total.
	wantMake(t, []int{2, 1, 2, 7, 3}, api.Alias{Total: 15, Cut: []int{10, 5, 10, 15, 15}, Other: []int{3, 3, 3, 3, 4}})
	wantMake(t, []int{5, 0, 0, 1}, api.Alias{Total: 6, Cut: []int{6, 0, 0, 4}, Other: []int{0, 0, 0, 0}})
}

func TestMakeAtSmall(t *testing.T) {
	for m, most := range []int{0, 60, 40, 15, 9, 6, 3, 2} {
		every(m, most, func(table []int) {
			if isTableOf(table) {
				wantMake(t, table, aliasOf(table))
			} else {
				wantNoMake(t, table)
			}
		})
	}
}

func TestMakeOfOneAmongMany(t *testing.T) {
	for _, m := range []int{2, 3, 10, 1000, mostK} {
		for _, at := range []int{0, 1, m / 2, m - 1} {
			for _, weight := range []int{1, 7, mostWeight} {
				table := make([]int, m)
				table[at] = weight
				right := api.Alias{Total: weight, Cut: make([]int, m), Other: slices.Repeat([]int{at}, m)}
				right.Cut[at] = weight
				wantMake(t, table, right)
			}
		}
	}
}

func TestMakeOfTheGreatest(t *testing.T) {
	right := api.Alias{Total: mostK * mostWeight, Cut: slices.Repeat([]int{mostK * mostWeight}, mostK), Other: make([]int, mostK)}
	for i := range mostK {
		right.Other[i] = i
	}
	wantMake(t, slices.Repeat([]int{mostWeight}, mostK), right)
}

func TestMakeOfHalves(t *testing.T) {
	// Each place of one half gives all that it has too much to one column of the other half.
	const half = mostK / 2
	for _, low := range []bool{false, true} {
		table := make([]int, mostK)
		right := api.Alias{Total: half * mostWeight, Cut: make([]int, mostK), Other: make([]int, mostK)}
		for i := range half {
			full, none := half+i, i
			if low {
				full, none = i, half+i
			}
			table[full] = mostWeight
			right.Cut[full] = right.Total
			right.Other[full], right.Other[none] = full, full
		}
		wantMake(t, table, right)
	}
}

// P14.1: what may be

func TestCheckOfTotals(t *testing.T) {
	for _, total := range []int{math.MinInt, -mostTotal, -1, 0, 1, 2, mostTotal - 1, mostTotal, mostTotal + 1, 2 * mostTotal, math.MaxInt} {
		right := api.ErrForm
		if total >= 1 && total <= mostTotal {
			right = api.OK
		}
		wantCheck(t, api.Alias{Total: total, Cut: []int{0}, Other: []int{0}}, right)
		wantCheck(t, api.Alias{Total: total, Cut: []int{0, total, total / 2}, Other: []int{2, 1, 0}}, right)
	}
}

func TestCheckOfNumbersOfParts(t *testing.T) {
	for _, cuts := range []int{0, 1, 2, 3, mostK - 1, mostK, mostK + 1, 2 * mostK} {
		for _, others := range []int{0, 1, 2, 3, mostK - 1, mostK, mostK + 1, 2 * mostK} {
			right := api.ErrForm
			if cuts == others && cuts >= 1 && cuts <= mostK {
				right = api.OK
			}
			wantCheck(t, api.Alias{Total: 1, Cut: make([]int, cuts), Other: make([]int, others)}, right)
		}
	}
	wantCheck(t, api.Alias{Total: 1}, api.ErrForm)
	wantCheck(t, api.Alias{Total: 1, Cut: []int{1}}, api.ErrForm)
	wantCheck(t, api.Alias{Total: 1, Other: []int{0}}, api.ErrForm)
}

func TestCheckOfCuts(t *testing.T) {
	for _, m := range []int{1, 2, 3, 7, mostK} {
		for _, total := range []int{1, 2, 60, mostTotal} {
			for _, at := range []int{0, m / 2, m - 1} {
				for _, cut := range []int{math.MinInt, -1, 0, 1, total / 2, total - 1, total, total + 1, math.MaxInt} {
					a := api.Alias{Total: total, Cut: make([]int, m), Other: make([]int, m)}
					a.Cut[at] = cut
					right := api.ErrForm
					if cut >= 0 && cut <= total {
						right = api.OK
					}
					wantCheck(t, a, right)
				}
			}
		}
	}
}

func TestCheckOfOthers(t *testing.T) {
	for _, m := range []int{1, 2, 3, 7, mostK} {
		for _, at := range []int{0, m / 2, m - 1} {
			for _, other := range []int{math.MinInt, -m, -1, 0, m / 2, m - 1, m, m + 1, math.MaxInt} {
				a := api.Alias{Total: 5, Cut: make([]int, m), Other: make([]int, m)}
				a.Other[at] = other
				right := api.ErrForm
				if other >= 0 && other < m {
					right = api.OK
				}
				wantCheck(t, a, right)
				// Also where the column never says its Other.
				a.Cut[at] = 5
				wantCheck(t, a, right)
			}
		}
	}
}

func TestCheckAtSmall(t *testing.T) {
	for m := range 4 {
		everyAlias(m, func(a api.Alias) {
			right := api.ErrForm
			if mayBe(a) {
				right = api.OK
			}
			wantCheck(t, a, right)
		})
	}
}

// everyAlias goes through all of m columns, those that may be and those that may not by one, with totals from 0 to 2.
func everyAlias(m int, try func(a api.Alias)) {
	for total := range 3 {
		every(m, total+2, func(cuts []int) {
			every(m, m+1, func(others []int) {
				a := api.Alias{Total: total, Cut: slices.Clone(cuts), Other: slices.Clone(others)}
				for i := range m {
					a.Cut[i]--
					a.Other[i]--
				}
				try(a)
			})
		})
	}
}

// P14.2: what a column says at a level

// noForms tells what may not be, each by one thing alone.
func noForms() []api.Alias {
	return []api.Alias{
		{},
		{Total: 0, Cut: []int{0, 0}, Other: []int{0, 1}}, {Total: -1, Cut: []int{0, 0}, Other: []int{0, 1}}, {Total: mostTotal + 1, Cut: []int{0, 0}, Other: []int{0, 1}},
		{Total: 4}, {Total: 4, Cut: []int{2, 4}}, {Total: 4, Other: []int{1, 1}}, {Total: 4, Cut: []int{2, 4}, Other: []int{1}}, {Total: 4, Cut: []int{2}, Other: []int{0, 0}},
		{Total: 4, Cut: []int{2, 5}, Other: []int{1, 1}}, {Total: 4, Cut: []int{-1, 4}, Other: []int{1, 1}},
		{Total: 4, Cut: []int{2, 4}, Other: []int{1, 2}}, {Total: 4, Cut: []int{2, 4}, Other: []int{-1, 1}},
		{Total: 4, Cut: make([]int, mostK+1), Other: make([]int, mostK+1)},
	}
}

// ends are columns, places and levels that are near, and the ends of all.
var ends = []int{math.MinInt, -1 << 32, -2, -1, 0, 1, 2, 3, 4, 5, 1 << 32, 1<<32 + 1, math.MaxInt}

func TestPickOfNoAlias(t *testing.T) {
	for _, a := range noForms() {
		for _, column := range ends {
			for _, level := range ends {
				wantPick(t, a, column, level, 0, api.ErrForm)
			}
		}
	}
}

func TestPickAtTheEnds(t *testing.T) {
	a := api.Alias{Total: 9, Cut: []int{4, 9, 0, 8}, Other: []int{3, 0, 1, 2}}
	for _, column := range []int{math.MinInt, -4, -1, 0, 1, 2, 3, 4, 5, math.MaxInt} {
		for _, level := range []int{math.MinInt, -9, -1, 0, 1, 3, 4, 5, 7, 8, 9, 10, math.MaxInt} {
			if column < 0 || column > 3 || level < 0 || level > 8 {
				wantPick(t, a, column, level, 0, api.ErrRange)
			} else {
				wantPick(t, a, column, level, place(a, column, level), api.OK)
			}
		}
	}
}

func TestPickByHand(t *testing.T) {
	a := api.Alias{Total: 9, Cut: []int{4, 9, 0, 8}, Other: []int{3, 0, 1, 2}}
	wantPick(t, a, 0, 3, 0, api.OK)
	wantPick(t, a, 0, 4, 3, api.OK)
	wantPick(t, a, 1, 0, 1, api.OK)
	wantPick(t, a, 1, 8, 1, api.OK)
	wantPick(t, a, 2, 0, 1, api.OK)
	wantPick(t, a, 2, 8, 1, api.OK)
	wantPick(t, a, 3, 7, 3, api.OK)
	wantPick(t, a, 3, 8, 2, api.OK)
}

func TestPickOfTheGreatest(t *testing.T) {
	a := api.Alias{Total: mostTotal, Cut: make([]int, mostK), Other: slices.Repeat([]int{7}, mostK)}
	a.Cut[mostK-1] = mostTotal - 1
	wantPick(t, a, 0, 0, 7, api.OK)
	wantPick(t, a, mostK-1, 0, mostK-1, api.OK)
	wantPick(t, a, mostK-1, mostTotal-2, mostK-1, api.OK)
	wantPick(t, a, mostK-1, mostTotal-1, 7, api.OK)
	wantPick(t, a, mostK-1, mostTotal, 0, api.ErrRange)
	wantPick(t, a, mostK, 0, 0, api.ErrRange)
}

// P14.2: of how many columns and levels a place is said

func TestWeightOfNoAlias(t *testing.T) {
	for _, a := range noForms() {
		for _, i := range ends {
			wantWeight(t, a, i, 0, api.ErrForm)
		}
	}
}

func TestWeightAtTheEnds(t *testing.T) {
	a := api.Alias{Total: 9, Cut: []int{4, 9, 0, 8}, Other: []int{3, 0, 1, 2}}
	for i, right := range []int{4, 18, 1, 13} {
		wantWeight(t, a, i, right, api.OK)
	}
	for _, i := range []int{math.MinInt, -4, -1, 4, 5, 9, 1 << 32, math.MaxInt} {
		wantWeight(t, a, i, 0, api.ErrRange)
	}
}

func TestPickAndWeightAtSmall(t *testing.T) {
	for m := range 4 {
		everyAlias(m, func(a api.Alias) {
			if mayBe(a) {
				wantAll(t, a)
			} else {
				wantPick(t, a, 0, 0, 0, api.ErrForm)
				wantWeight(t, a, 0, 0, api.ErrForm)
			}
		})
	}
}

// wantAll fails if any column doesn't say at any level what it must, or a place's weight isn't how often it is said.
func wantAll(t *testing.T, a api.Alias) {
	t.Helper()
	for column := -1; column <= len(a.Cut); column++ {
		for level := -1; level <= a.Total; level++ {
			if column < 0 || column == len(a.Cut) || level < 0 || level == a.Total {
				wantPick(t, a, column, level, 0, api.ErrRange)
			} else {
				wantPick(t, a, column, level, place(a, column, level), api.OK)
			}
		}
	}
	for i, right := range counted(a) {
		wantWeight(t, a, i, right, api.OK)
	}
	wantWeight(t, a, -1, 0, api.ErrRange)
	wantWeight(t, a, len(a.Cut), 0, api.ErrRange)
}

func TestWeightOfTheGreatest(t *testing.T) {
	a := api.Alias{Total: mostTotal, Cut: make([]int, mostK), Other: slices.Repeat([]int{7}, mostK)}
	wantWeight(t, a, 7, mostK*mostTotal, api.OK)
	wantWeight(t, a, 0, 0, api.OK)
	wantWeight(t, a, mostK-1, 0, api.OK)
	wantWeight(t, a, mostK, 0, api.ErrRange)
	a.Cut[mostK-1] = mostTotal
	wantWeight(t, a, 7, (mostK-1)*mostTotal, api.OK)
	wantWeight(t, a, mostK-1, mostTotal, api.OK)
}
