package binom

import (
	"math"
	"slices"
	"testing"

	"artesian/api"
	"artesian/digits"
)

// The bounds of what is picked, and of rows, as the chapter writes them.
const (
	mostThings = 65536
	mostRow    = 1024
)

// brief tells a number's digits, of a long one only how many and both ends.
func brief(n api.Nat) string {
	if len(n) > 20 {
		s := digits.Put(n)
		return s[:20] + ".." + s[len(s)-20:]
	}
	return digits.Put(n)
}

// want fails if a call's answer isn't the number of these digits.
func want(t *testing.T, call string, got api.Nat, err api.Errno, right string) {
	t.Helper()
	n, fault := digits.Get(right)
	if fault.Err != api.OK {
		t.Fatalf("%s: what is wanted is no number: %s", call, right)
	}
	if err != api.OK || !slices.Equal(got, n) {
		t.Errorf("%s: got %s, %v, want %s", call, brief(got), err, brief(n))
	}
}

// wantRefused fails if a call didn't answer ErrRange and nothing beside it.
func wantRefused(t *testing.T, call string, got int, err api.Errno) {
	t.Helper()
	if err != api.ErrRange || got != 0 {
		t.Errorf("%s: got %d digits or numbers, %v, want none, ErrRange", call, got, err)
	}
}

// wantChoose fails if so many of n aren't chosen in so many ways.
func wantChoose(t *testing.T, n, k int, right string) {
	t.Helper()
	got, err := Choose(n, k)
	want(t, "Choose", got, err, right)
}

// wantRow fails if the row of n isn't that.
func wantRow(t *testing.T, n int, right ...string) {
	t.Helper()
	row, err := Row(n)
	if err != api.OK || len(row) != len(right) {
		t.Fatalf("Row(%d): %d numbers, %v", n, len(row), err)
	}
	for k, number := range row {
		want(t, "Row", number, err, right[k])
	}
}

// wantFalling fails if there aren't so many rows of k things among n.
func wantFalling(t *testing.T, n, k int, right string) {
	t.Helper()
	got, err := Falling(n, k)
	want(t, "Falling", got, err, right)
}

// wantCount fails if there aren't so many ways into groups.
func wantCount(t *testing.T, l []int, right string) {
	t.Helper()
	got, err := Count(l)
	want(t, "Count", got, err, right)
}

// The chapter's table of examples

func TestExamples(t *testing.T) {
	wantChoose(t, 5, 2, "10")
	wantChoose(t, 5, 6, "0")
	wantChoose(t, 5, -1, "0")
	wantChoose(t, 0, 0, "1")
	wantChoose(t, 70, 35, "112186277816662845432")
	n, err := Choose(-1, 0)
	wantRefused(t, "Choose(-1, 0)", len(n), err)

	wantRow(t, 4, "1", "4", "6", "4", "1")
	wantFalling(t, 5, 3, "60")
	wantFalling(t, 2, 3, "0")
	wantFalling(t, 7, 0, "1")
	n, err = Falling(7, -1)
	wantRefused(t, "Falling(7, -1)", len(n), err)

	wantCount(t, []int{2, 1, 1}, "12")
	wantCount(t, nil, "1")
	wantCount(t, []int{3, 0}, "1")
	n, err = Count([]int{1, -1})
	wantRefused(t, "Count(1 -1)", len(n), err)
}

// P7.1

func TestChooseAtTheEdges(t *testing.T) {
	for _, x := range []struct {
		n, k  int
		right string
	}{
		{0, -1, "0"}, {0, 1, "0"}, {0, math.MinInt, "0"}, {0, math.MaxInt, "0"},
		{1, -1, "0"}, {1, 0, "1"}, {1, 1, "1"}, {1, 2, "0"},
		{5, 0, "1"}, {5, 1, "5"}, {5, 3, "10"}, {5, 4, "5"}, {5, 5, "1"}, {5, math.MinInt, "0"}, {5, math.MaxInt, "0"},
		{67, 33, "14226520737620288370"}, {68, 34, "28453041475240576740"}, {100, 50, "100891344545564193334812497256"},
		{mostThings, -1, "0"}, {mostThings, 0, "1"}, {mostThings, 1, "65536"}, {mostThings, 2, "2147450880"},
		{mostThings, mostThings - 2, "2147450880"}, {mostThings, mostThings - 1, "65536"}, {mostThings, mostThings, "1"}, {mostThings, mostThings + 1, "0"},
		{mostThings, math.MinInt, "0"}, {mostThings, math.MaxInt, "0"},
	} {
		wantChoose(t, x.n, x.k, x.right)
	}
}

func TestChooseRefusesN(t *testing.T) {
	for _, n := range []int{-1, -2, -mostThings, math.MinInt, mostThings + 1, mostThings + 2, 1 << 32, math.MaxInt} {
		for _, k := range []int{0, 1, -1, n, 2, mostThings, math.MinInt, math.MaxInt} {
			got, err := Choose(n, k)
			wantRefused(t, "Choose", len(got), err)
		}
	}
}

func TestRowAtTheEdges(t *testing.T) {
	wantRow(t, 0, "1")
	wantRow(t, 1, "1", "1")
	wantRow(t, 2, "1", "2", "1")
	wantRow(t, 3, "1", "3", "3", "1")
	wantRow(t, 7, "1", "7", "21", "35", "35", "21", "7", "1")
}

func TestRowIsChooseOfAllSizes(t *testing.T) {
	for _, n := range []int{0, 1, 2, 9, 64, 67, 68, 130, 500, mostRow - 1, mostRow} {
		row, err := Row(n)
		if err != api.OK || len(row) != n+1 {
			t.Fatalf("Row(%d): %d numbers, %v", n, len(row), err)
		}
		for k, got := range row {
			if right, _ := Choose(n, k); !slices.Equal(got, right) {
				t.Errorf("Row(%d) at %d: %s, want %s", n, k, brief(got), brief(right))
			}
		}
	}
}

func TestRowRefusesN(t *testing.T) {
	for _, n := range []int{-1, -2, -mostRow, math.MinInt, mostRow + 1, mostRow + 2, mostThings, 1 << 32, math.MaxInt} {
		row, err := Row(n)
		wantRefused(t, "Row", len(row), err)
	}
}

// P7.2

func TestFallingAtTheEdges(t *testing.T) {
	for _, x := range []struct {
		n, k  int
		right string
	}{
		{0, 0, "1"}, {0, 1, "0"}, {0, math.MaxInt, "0"}, {1, 0, "1"}, {1, 1, "1"}, {1, 2, "0"},
		{5, 0, "1"}, {5, 1, "5"}, {5, 2, "20"}, {5, 4, "120"}, {5, 5, "120"}, {5, 6, "0"}, {5, math.MaxInt, "0"},
		{20, 20, "2432902008176640000"}, {21, 21, "51090942171709440000"}, {25, 24, "15511210043330985984000000"},
		{mostThings, 0, "1"}, {mostThings, 1, "65536"}, {mostThings, 2, "4294901760"}, {mostThings, 4, "18445055271093534720"},
		{mostThings, mostThings + 1, "0"}, {mostThings, math.MaxInt, "0"},
	} {
		wantFalling(t, x.n, x.k, x.right)
	}
}

func TestFallingRefuses(t *testing.T) {
	for _, x := range [][2]int{
		{-1, 0}, {-1, -1}, {-1, 1}, {-1, -2}, {math.MinInt, 0}, {math.MinInt, math.MaxInt}, {-mostThings, mostThings},
		{mostThings + 1, 0}, {mostThings + 1, 1}, {mostThings + 1, mostThings + 1}, {mostThings + 1, mostThings + 2}, {1 << 32, 1 << 33}, {math.MaxInt, 0}, {math.MaxInt, math.MaxInt},
		{0, -1}, {7, -1}, {7, -7}, {7, math.MinInt}, {mostThings, -1}, {mostThings, math.MinInt}, {mostThings + 1, -1},
	} {
		got, err := Falling(x[0], x[1])
		wantRefused(t, "Falling", len(got), err)
	}
}

// P7.3

func TestCountAtTheEdges(t *testing.T) {
	for _, x := range []struct {
		l     []int
		right string
	}{
		{[]int{}, "1"}, {[]int{0}, "1"}, {[]int{0, 0, 0}, "1"}, {make([]int, 100000), "1"},
		{[]int{1}, "1"}, {[]int{7}, "1"}, {[]int{0, 7, 0}, "1"}, {[]int{1, 1}, "2"}, {[]int{1, 0, 1}, "2"}, {[]int{3, 2}, "10"}, {[]int{2, 3}, "10"},
		{[]int{1, 1, 1, 1, 1}, "120"}, {[]int{2, 2, 2}, "90"}, {[]int{4, 3, 2, 1}, "12600"}, {[]int{0, 1, 2, 3, 0, 4}, "12600"}, {[]int{35, 35}, "112186277816662845432"},
		{slices.Repeat([]int{1}, 21), "51090942171709440000"},
		{[]int{mostThings}, "1"}, {[]int{mostThings, 0}, "1"}, {[]int{mostThings - 1, 1}, "65536"}, {[]int{1, mostThings - 1}, "65536"}, {[]int{1, mostThings - 2, 1}, "4294901760"},
		{[]int{1, 1, 1, mostThings - 4, 1}, "18445055271093534720"}, {append(make([]int, 100000), 2, mostThings-2), "2147450880"},
	} {
		wantCount(t, x.l, x.right)
	}
}

func TestCountRefuses(t *testing.T) {
	for _, l := range [][]int{
		{-1}, {0, -1}, {-1, 0}, {1, -1}, {-1, 1}, {2, 1, -3}, {math.MinInt}, {mostThings, -1}, {-1, mostThings + 1},
		{mostThings + 1}, {mostThings, 1}, {1, mostThings}, {mostThings, 0, 1}, {mostThings + 1, -1}, slices.Repeat([]int{1}, mostThings+1),
		{math.MaxInt}, {math.MaxInt, math.MaxInt}, {math.MaxInt, math.MaxInt, 2}, {1, math.MaxInt}, {math.MaxInt, 1}, {math.MaxInt, math.MinInt}, {math.MinInt, math.MinInt},
		slices.Repeat([]int{1 << 62}, 4), slices.Repeat([]int{-1 << 62}, 4), {1 << 32, -1 << 32},
	} {
		got, err := Count(l)
		wantRefused(t, "Count", len(got), err)
	}
}
