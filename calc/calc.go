// Package calc is layer 1: whole numbers within bounds: see DOC.md and doc/01-calc.md.
package calc

import "math"

// Clamp is n, brought between low and high; low, if low is above high.
func Clamp(n, low, high int) int {
	if n < low || low > high {
		return low
	}
	return min(n, high)
}

// Floor is the greatest number whose d fold is not above n; 0, if d is not above 0.
func Floor(n, d int) int {
	if d <= 0 {
		return 0
	}
	q := n / d
	// Go's division rounds towards 0, which lies above n's part of d below 0.
	if n%d < 0 {
		q--
	}
	return q
}

// Mod is what of n is left above Floor's d fold, from 0 to d - 1; 0, if d is not above 0.
func Mod(n, d int) int {
	if d <= 0 {
		return 0
	}
	// Not n - d*Floor: near the least number that product is no number.
	m := n % d
	if m < 0 {
		m += d
	}
	return m
}

// Next is the least multiple of step above n; n, if step is not above 0, or that is no number.
func Next(n, step int) int {
	if step <= 0 {
		return n
	}
	more := step - Mod(n, step)
	// Held against what room is left, as the sum itself would wrap round.
	if n > math.MaxInt-more {
		return n
	}
	return n + more
}

// Span is the part of all from at on, n long, and whether there is one.
func Span(at, n, all int) (from, to int, ok bool) {
	if at < 0 || at > all || n < 0 || n > all-at {
		return 0, 0, false
	}
	return at, at + n, true
}

// Digits is how many decimal digits n has, its sign not counted.
func Digits(n int) int {
	k := 1
	// n is not turned round below 0: the least number has no opposite.
	for n /= 10; n != 0; n /= 10 {
		k++
	}
	return k
}
