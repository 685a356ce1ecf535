// Package loan is for the tests: it lends lists to the calls that are tried, so that what a call did to them is found, in their spare room too.
package loan

import "slices"

// spare is how many places stand behind a list that is lent.
const spare = 24

// Of tells a list with spare room behind it that is filled.
func Of[E any](list []E, filled E) []E {
	whole := append(slices.Clone(list), slices.Repeat([]E{filled}, spare)...)
	return whole[:len(list)]
}

// Touched tells whether what was lent, or its spare room, is no longer what it was.
func Touched[E comparable](lent, was []E, filled E) bool {
	whole := lent[:len(lent)+spare]
	return !slices.Equal(whole[:len(lent)], was) || !slices.Equal(whole[len(lent):], slices.Repeat([]E{filled}, spare))
}

// Scribble writes over a list, and over its spare room.
func Scribble[E any](list []E, over E) {
	whole := list[:cap(list)]
	for i := range whole {
		whole[i] = over
	}
}
