// Package num is layer 1: checked numbers, and signed numbers written as ones without a sign. See shared/doc/01-num.md.
package num

import (
	"math/bits"

	"skald/api"
)

// maxParts is the number of elements that Sum takes.
const maxParts = 10_000

// Check returns ErrOver if a number is not allowed, that is, not from -MaxNum to MaxNum.
func Check(a int64) api.Errno {
	if !Within(a, -api.MaxNum, api.MaxNum) {
		return api.ErrOver
	}
	return api.OK
}

// Add returns the sum of two numbers; ErrOver if one of them, or the sum, is not allowed.
func Add(a, b int64) (int64, api.Errno) {
	return combine(a, b, func() wide { return widen(a).plus(widen(b)) })
}

// Sub returns the difference of two numbers; ErrOver if one of them, or the difference, is not allowed.
func Sub(a, b int64) (int64, api.Errno) {
	return combine(a, b, func() wide { return widen(a).plus(widen(-b)) })
}

// Mul returns the product of two numbers; ErrOver if one of them, or the product, is not allowed.
func Mul(a, b int64) (int64, api.Errno) {
	return combine(a, b, func() wide { return product(a, b) })
}

// combine returns the result of a and b; ErrOver if one of them, or the result, is not allowed.
// The result is a closure, so that it is only found for allowed numbers: -b exists for each of these.
func combine(a, b int64, result func() wide) (int64, api.Errno) {
	if Check(a) != api.OK || Check(b) != api.OK {
		return 0, api.ErrOver
	}
	return result().narrow()
}

// Sum returns the sum of a list; ErrMany if the list is too long, ErrOver if an element, or the whole sum, is not allowed.
func Sum(l []int64) (int64, api.Errno) {
	if len(l) > maxParts {
		return 0, api.ErrMany
	}
	var total wide
	for _, a := range l {
		if Check(a) != api.OK {
			return 0, api.ErrOver
		}
		total = total.plus(widen(a))
	}
	return total.narrow()
}

// Within reports whether a is from lo to hi.
func Within(a, lo, hi int64) bool {
	return lo <= a && a <= hi
}

// Clamp returns the number from lo to hi that is nearest to a; ErrArg if lo is above hi.
func Clamp(a, lo, hi int64) (int64, api.Errno) {
	if lo > hi {
		return 0, api.ErrArg
	}
	return max(lo, min(a, hi)), api.OK
}

// Zig returns 2a for a from 0 on, and -2a - 1 for a below 0.
func Zig(a int64) uint64 {
	twice := uint64(a) << 1
	if a < 0 {
		return ^twice // -2a - 1, also where 2a does not fit an int64
	}
	return twice
}

// Zag returns the number whose Zig is u.
func Zag(u uint64) int64 {
	half := int64(u >> 1)
	if u&1 == 1 {
		return ^half // -half - 1
	}
	return half
}

// wide is an integer of 128 bits in two's complement: the low word, then the high one.
// No sum of maxParts numbers, and no product of two numbers, is beyond it.
type wide [2]uint64

func widen(a int64) wide {
	return wide{uint64(a), signWord(a)}
}

// signWord returns the word above a: all ones if a is negative, and else 0.
func signWord(a int64) uint64 {
	return uint64(a >> 63)
}

func (w wide) plus(v wide) wide {
	low, carry := bits.Add64(w[0], v[0], 0)
	high, _ := bits.Add64(w[1], v[1], carry)
	return wide{low, high}
}

// product multiplies the words of a and b as if they had no sign. A negative number's word
// is 2^64 too large, so the other number is then taken away from the high word again.
func product(a, b int64) wide {
	high, low := bits.Mul64(uint64(a), uint64(b))
	high -= signWord(a)&uint64(b) + signWord(b)&uint64(a)
	return wide{low, high}
}

// narrow returns the number that w is; ErrOver if this is not allowed.
func (w wide) narrow() (int64, api.Errno) {
	a := int64(w[0])
	if w != widen(a) || Check(a) != api.OK {
		return 0, api.ErrOver
	}
	return a, api.OK
}
