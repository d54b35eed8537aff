// Package money is layer 1: amounts, and what is so much of them.
package money

import (
	"math/bits"

	"haberdash/api"
)

// Right tells whether x is an amount: from 0 to MaxMoney.
func Right(x int64) bool { return x >= 0 && x <= api.MaxMoney }

// Add is a and b together.
func Add(a, b int64) (int64, api.Errno) {
	if !Right(a) || !Right(b) {
		return 0, api.ErrArg
	}
	return ranged(a + b)
}

// Sub is a less b.
func Sub(a, b int64) (int64, api.Errno) {
	if !Right(a) || !Right(b) {
		return 0, api.ErrArg
	}
	return ranged(a - b)
}

// Mul is a, n times.
func Mul(a, n int64) (int64, api.Errno) { return Times(a, n, 1, api.Down) }

// Times is x times num, by den, rounded as round says.
func Times(x, num, den int64, round int) (int64, api.Errno) {
	ways := [...]func(remainder) int64{
		api.Down:     remainder.down,
		api.HalfUp:   remainder.halfUp,
		api.HalfEven: remainder.halfEven,
	}
	if !Right(x) || !Right(num) || den < 1 || den > api.MaxMoney || round < 0 || round >= len(ways) {
		return 0, api.ErrArg
	}
	r, ok := divide(x, num, den)
	if !ok {
		return 0, api.ErrRange
	}
	return ranged(ways[round](r))
}

// Rate is x times rate, by MaxRate, rounded as round says.
func Rate(x, rate int64, round int) (int64, api.Errno) {
	if rate < 0 || rate > api.MaxRate {
		return 0, api.ErrArg
	}
	return Times(x, rate, api.MaxRate, round)
}

// ranged is what was worked out from right amounts: it, if it is right too.
func ranged(x int64) (int64, api.Errno) {
	if !Right(x) {
		return 0, api.ErrRange
	}
	return x, api.OK
}

// remainder is what a division by den came to: whole, and left of den beside it, which is below den.
type remainder struct {
	whole, left, den int64
}

// divide divides x times num by den; false, if even rounded down that is above MaxMoney. The arguments are right, den is not 0.
func divide(x, num, den int64) (remainder, bool) {
	high, low := bits.Mul64(uint64(x), uint64(num))
	if high >= uint64(den) { // the quotient needs more than 64 bits: Div64 would panic
		return remainder{}, false
	}
	whole, left := bits.Div64(high, low, uint64(den))
	if whole > api.MaxMoney { // ahead of rounding: one more could go round to 0
		return remainder{}, false
	}
	return remainder{int64(whole), int64(left), den}, true
}

func (r remainder) down() int64 { return r.whole }

func (r remainder) halfUp() int64 {
	if 2*r.left >= r.den {
		return r.whole + 1
	}
	return r.whole
}

func (r remainder) halfEven() int64 {
	if 2*r.left == r.den {
		return r.whole + r.whole%2
	}
	return r.halfUp()
}
