package loan

import (
	"slices"
	"testing"
)

func TestWhatIsLentIsTheList(t *testing.T) {
	list := []int{1, 2, 3}
	lent := Of(list, 9)
	if !slices.Equal(lent, list) || Touched(lent, list, 9) {
		t.Errorf("got %v", lent)
	}
	lent[0] = 7
	if list[0] != 1 {
		t.Error("what is lent is the list's own memory")
	}
	if nothing := Of(nil, 9); len(nothing) != 0 || Touched(nothing, nil, 9) {
		t.Errorf("of no list: got %v", nothing)
	}
}

func TestWhatIsTouchedIsFound(t *testing.T) {
	list := []int{1, 2, 3}
	for i := range len(list) + spare {
		lent := Of(list, 9)
		lent[:len(list)+spare][i]++
		if !Touched(lent, list, 9) {
			t.Errorf("the place %d was touched, and is not found", i)
		}
	}
}

func TestScribbleWritesEverywhere(t *testing.T) {
	lent := Of([]int{1, 2, 3}, 9)
	Scribble(lent, 5)
	whole := lent[:cap(lent)]
	if !slices.Equal(whole, slices.Repeat([]int{5}, len(whole))) {
		t.Errorf("got %v", whole)
	}
	Scribble([]int(nil), 5)
}
