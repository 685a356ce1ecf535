// Package limbs is layer 1: natural numbers, digit by digit: see shared/doc/01-limbs.md.
package limbs

import (
	"cmp"
	"math/bits"
	"slices"

	"artesian/api"
)

// digitBits is how many bits a digit has.
const digitBits = 64

// Check tells why a list is no number.
func Check(n api.Nat) api.Errno {
	if len(bare(n)) != len(n) {
		return api.ErrForm
	}
	return api.OK
}

// Trim takes the highest noughts off a list.
func Trim(n api.Nat) api.Nat {
	n = bare(n)
	return widen(n, len(n))
}

// Of tells a small number.
func Of(x uint64) api.Nat {
	if x == 0 {
		return nil
	}
	return api.Nat{x}
}

// One tells a number as a small one, if it is one.
func One(n api.Nat) (uint64, bool) {
	n = bare(n)
	if len(n) > 1 {
		return 0, false
	}
	return digit(n, 0), true
}

// Cmp tells which of two numbers is greater.
func Cmp(a, b api.Nat) int {
	a, b = bare(a), bare(b)
	if c := cmp.Compare(len(a), len(b)); c != 0 {
		return c
	}
	for i, x := range slices.Backward(a) {
		if c := cmp.Compare(x, b[i]); c != 0 {
			return c
		}
	}
	return 0
}

// Add tells a sum.
func Add(a, b api.Nat) api.Nat {
	a, b = bare(a), bare(b)
	if len(a) < len(b) {
		a, b = b, a
	}
	// The digit more than a has takes the last carry, so the loop ends inside the sum.
	sum := widen(a, len(a)+1)
	for i, carry := 0, uint64(0); i < len(b) || carry != 0; i++ {
		sum[i], carry = bits.Add64(sum[i], digit(b, i), carry)
	}
	return bare(sum)
}

// Sub tells a difference, if it is a natural number.
func Sub(a, b api.Nat) (api.Nat, api.Errno) {
	if Cmp(a, b) < 0 {
		return nil, api.ErrRange
	}
	a, b = bare(a), bare(b)
	// Since b is not greater, the borrow ends inside the difference.
	rest := widen(a, len(a))
	for i, borrow := 0, uint64(0); i < len(b) || borrow != 0; i++ {
		rest[i], borrow = bits.Sub64(rest[i], digit(b, i), borrow)
	}
	return bare(rest), api.OK
}

// Up multiplies by a power of 2.
func Up(n api.Nat, bits int) (api.Nat, api.Errno) {
	if !movable(bits) {
		return nil, api.ErrRange
	}
	n = bare(n)
	if len(n) == 0 {
		return nil, api.OK
	}
	whole, part := bits/digitBits, bits%digitBits
	moved := widen(nil, whole+len(n)+1)
	for i, x := range n {
		moved[whole+i] |= x << part
		// A move by a whole digit's bits leaves 0, so a part of 0 needs no case of its own.
		moved[whole+i+1] = x >> (digitBits - part)
	}
	return bare(moved), api.OK
}

// Down divides by a power of 2, rounding down.
func Down(n api.Nat, bits int) (api.Nat, api.Errno) {
	if !movable(bits) {
		return nil, api.ErrRange
	}
	n = bare(n)
	whole, part := bits/digitBits, bits%digitBits
	if whole >= len(n) {
		return nil, api.OK
	}
	moved := widen(nil, len(n)-whole)
	for i := range moved {
		moved[i] = n[whole+i]>>part | digit(n, whole+i+1)<<(digitBits-part)
	}
	return bare(moved), api.OK
}

// Len tells how many bits a number has.
func Len(n api.Nat) int {
	n = bare(n)
	if len(n) == 0 {
		return 0
	}
	last := len(n) - 1
	return last*digitBits + bits.Len64(n[last])
}

// movable tells whether a number may be moved by so many bits.
func movable(bits int) bool {
	return 0 <= bits && bits <= api.MaxBits
}

// bare tells n without its highest noughts. It shares n's memory: what was handed in is answered only by way of widen.
func bare(n api.Nat) api.Nat {
	for i, x := range slices.Backward(n) {
		if x != 0 {
			return n[:i+1]
		}
	}
	return nil
}

// digit tells the digit at the place i, which is 0 beyond the highest one.
func digit(n api.Nat, i int) uint64 {
	if i < len(n) {
		return n[i]
	}
	return 0
}

// widen tells a new list of size digits, at least as many as n has: those of n, and noughts behind them.
func widen(n api.Nat, size int) api.Nat {
	// Grow starts from nil, since n's own spare room is the caller's.
	wide := append(slices.Grow(api.Nat(nil), size), n...)[:size]
	clear(wide[len(n):])
	return wide
}
