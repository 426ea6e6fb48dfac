// Package num is layer 1, exact integer arithmetic: see shared/doc/01-num.md.
package num

import (
	"cmp"
	"math/bits"

	"dancestudio/api"
)

const (
	maxSmall = 1 << 50
	maxEnd   = 1 << 20
	maxSteps = 64 * api.MaxTicks
	rootBits = 26 // of the root of maxSmall
)

func small(n int) bool { return -maxSmall <= n && n <= maxSmall }

func isEnd(n int) bool { return -maxEnd <= n && n <= maxEnd }

// Lerp returns (a * (d - k) + b * k) / d, rounded to the nearest integer, of two equally near ones to the even one. ErrRange unless a and b are from -2^20 to 2^20, d from 1 to MaxTicks * 64, and k from 0 to d.
func Lerp(a, b, k, d int) (int, api.Errno) {
	if !isEnd(a) || !isEnd(b) || d < 1 || d > maxSteps || k < 0 || k > d {
		return 0, api.ErrRange
	}
	// The weights add up to d, so the sum is at most 2^39: Round accepts it.
	return Round(a*(d-k)+b*k, d)
}

// Round returns a / b, rounded like Lerp. ErrRange unless a and b are from -2^50 to 2^50; ErrDivide if b is 0.
func Round(a, b int) (int, api.Errno) {
	if b < 0 {
		// The least int stays as it is, and Floor refuses it.
		a, b = -a, -b
	}
	down, rest, err := Floor(a, b)
	if err != api.OK {
		return 0, err
	}
	isOdd := down%2 != 0
	if 2*rest > b || 2*rest == b && isOdd {
		return down + 1, api.OK
	}
	return down, api.OK
}

// Floor returns a / b, rounded down, and the remainder a - b * that. ErrRange unless a and b are from -2^50 to 2^50; ErrDivide if b is 0; ErrRange if b is negative.
func Floor(a, b int) (int, int, api.Errno) {
	if !small(a) || !small(b) {
		return 0, 0, api.ErrRange
	}
	if b == 0 {
		return 0, 0, api.ErrDivide
	}
	if b < 0 {
		return 0, 0, api.ErrRange
	}
	quotient, rest := a/b, a%b
	if rest < 0 {
		// Go's division rounds towards 0.
		quotient, rest = quotient-1, rest+b
	}
	return quotient, rest, api.OK
}

// Root returns the greatest integer whose square is at most n. ErrRange unless n is from 0 to 2^50.
func Root(n int) (int, api.Errno) {
	if n < 0 || n > maxSmall {
		return 0, api.ErrRange
	}
	root := 0
	for i := range rootBits {
		next := root + 1<<(rootBits-1-i)
		if next*next <= n {
			root = next
		}
	}
	return root, api.OK
}

// Gcd returns the greatest common divisor, 0 for 0 and 0. ErrRange unless both are from -2^50 to 2^50.
func Gcd(a, b int) (int, api.Errno) {
	if !small(a) || !small(b) {
		return 0, api.ErrRange
	}
	for b != 0 {
		a, b = b, a%b
	}
	if a < 0 {
		a = -a
	}
	return a, api.OK
}

// Compare returns -1, 0 or 1: whether a * b is less than, equal to or greater than c * d, exactly. ErrRange unless all are from -2^50 to 2^50.
func Compare(a, b, c, d int) (int, api.Errno) {
	if !small(a) || !small(b) || !small(c) || !small(d) {
		return 0, api.ErrRange
	}
	leftHigh, leftLow := product(a, b)
	rightHigh, rightLow := product(c, d)
	if leftHigh != rightHigh {
		return cmp.Compare(leftHigh, rightHigh), api.OK
	}
	return cmp.Compare(leftLow, rightLow), api.OK
}

// product returns a * b in two words: high * 2^64 + low.
func product(a, b int) (int64, uint64) {
	high, low := bits.Mul64(uint64(a), uint64(b))
	// Mul64 takes a negative factor for 2^64 more than it is, which adds the other factor to the high word.
	if a < 0 {
		high -= uint64(b)
	}
	if b < 0 {
		high -= uint64(a)
	}
	return int64(high), low
}
