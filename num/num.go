// Package num: numbers that refuse what they cannot hold, and ticks that come again and again (layer 1): see doc/01-num.md.
package num

import (
	"math"

	"bulkhead/api"
)

// Add is a + b, where that is an int64.
func Add(a, b int64) (int64, bool) {
	sum := a + b
	// A sum wraps round just if its sign is neither that of a nor that of b.
	if (a^sum)&(b^sum) < 0 {
		return 0, false
	}
	return sum, true
}

// Sub is a - b, where that is an int64.
func Sub(a, b int64) (int64, bool) {
	difference := a - b
	// A difference wraps round just if the signs of a and b are unlike and its own is not that of a.
	if (a^b)&(a^difference) < 0 {
		return 0, false
	}
	return difference, true
}

// Mul is a * b, where that is an int64.
func Mul(a, b int64) (int64, bool) {
	if b == 0 {
		return 0, true
	}
	product := a * b
	// The least number by -1 wraps round to itself, so dividing back would not show it.
	if a == math.MinInt64 && b == -1 || product/b != a {
		return 0, false
	}
	return product, true
}

// Div is the quotient and the rest of a by b, the rest 0 or above, where there is a quotient.
func Div(a, b int64) (int64, int64, bool) {
	if b == 0 || a == math.MinInt64 && b == -1 {
		return 0, 0, false
	}
	quotient, rest := a/b, a%b
	// The language rounds towards 0, which leaves a negative rest below 0.
	switch {
	case rest < 0 && b > 0:
		quotient, rest = quotient-1, rest+b
	case rest < 0:
		quotient, rest = quotient+1, rest-b
	}
	return quotient, rest, true
}

// Gcd is the greatest common divisor, whatever the signs of a and b.
func Gcd[T int | int64](a, b T) T {
	for b != 0 {
		a, b = b, a%b
	}
	// The signs are dropped last, and the least number keeps its own: T cannot hold its distance from 0.
	if a < 0 {
		a = -a
	}
	if a < 0 {
		return 0
	}
	return a
}

// Lcm is the least common multiple of all of them, where it is at most so much.
func Lcm[T int | int64](list []T, most T) (T, bool) {
	if most < 1 {
		return 0, false
	}
	multiple := T(1)
members:
	for _, member := range list {
		step := member / Gcd(multiple, member)
		switch {
		// The step is held against the room that is left: the product might wrap round.
		case member < 1, step > most/multiple:
			multiple = 0
			break members
		default:
			multiple *= step
		}
	}
	return multiple, multiple > 0
}

// Later is the tick n behind t; Never, where one of them is no such number or that is not below the end of ticks.
func Later(t int, n int64) int {
	if t < 0 || t >= api.MaxTick || n < 0 || n >= int64(api.MaxTick-t) {
		return api.Never
	}
	return t + int(n)
}

// NextAt is the least tick from that one on at offset + k * period.
func NextAt(offset, period, from int) (int, bool) {
	if !comesAgain(offset, period) {
		return 0, false
	}
	if from <= offset {
		return offset, true
	}
	past := (from - offset) % period
	if past == 0 {
		return from, true
	}
	wait := period - past
	if wait > math.MaxInt-from {
		return 0, false
	}
	return from + wait, true
}

// Count is how many ticks offset + k * period lie from one tick on and below another.
func Count(offset, period, from, below int) (int, bool) {
	if !comesAgain(offset, period) {
		return 0, false
	}
	if below <= from {
		return 0, true
	}
	return countBelow(offset, period, below) - countBelow(offset, period, from), true
}

// comesAgain tells whether offset and period may stand for ticks that come again.
func comesAgain(offset, period int) bool { return offset >= 0 && period >= 1 }

// countBelow is how many ticks offset + k * period lie below that one.
func countBelow(offset, period, below int) int {
	if below <= offset {
		return 0
	}
	// The last tick that counts is below - 1, so that the 1 for offset itself never goes beyond an int.
	return (below-1-offset)/period + 1
}
