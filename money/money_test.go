package money_test

import (
	"math"
	"math/big"
	"testing"

	"haberdash/api"
	"haberdash/money"
)

const most = api.MaxMoney

// answer is what a call tells: a value and an error.
type answer struct {
	v int64
	e api.Errno
}

func told(v int64, e api.Errno) answer { return answer{v, e} }

// edges are numbers at and around the ends of what is right, and of what 64 bits hold on the way.
func edges() []int64 {
	return []int64{
		math.MinInt64, math.MinInt64 + 1, -most - 1, -most, -3, -2, -1,
		0, 1, 2, 3, 4, 5, 7, 9_999, 10_000, 10_001, 1 << 16, 9_999_999, 10_000_000, 10_000_001,
		1 << 32, 1<<40 - 1, 1 << 40, 1<<40 + 1, most/3 + 1, most/2 - 1, most / 2, most/2 + 1,
		most - 1, most, most + 1, 2 * most, 1 << 62, math.MaxInt64 - 1, math.MaxInt64,
	}
}

func right(x int64) bool { return 0 <= x && x <= most }

// ranged is the answer for a whole number that right arguments came to.
func ranged(x *big.Int) answer {
	if x.Sign() < 0 || x.Cmp(big.NewInt(most)) > 0 {
		return answer{0, api.ErrRange}
	}
	return answer{x.Int64(), api.OK}
}

// times is P1.2 in numbers without an end: what is rounded is compared with twice itself.
func times(x, num, den int64, round int) answer {
	if !right(x) || !right(num) || den < 1 || den > most || round != api.Down && round != api.HalfUp && round != api.HalfEven {
		return answer{0, api.ErrArg}
	}
	whole, left := new(big.Int).QuoRem(new(big.Int).Mul(big.NewInt(x), big.NewInt(num)), big.NewInt(den), new(big.Int))
	half := new(big.Int).Lsh(left, 1).Cmp(big.NewInt(den)) // below, at or above the half
	up := half > 0 || half == 0 && round == api.HalfUp || half == 0 && whole.Bit(0) == 1
	if up && round != api.Down {
		whole.Add(whole, big.NewInt(1))
	}
	return ranged(whole)
}

// P1.1

func TestRightFromNothingToMaxMoney(t *testing.T) {
	for _, x := range []int64{0, 1, 199, most - 1, most} {
		if !money.Right(x) {
			t.Errorf("Right(%d): want true", x)
		}
	}
	for _, x := range []int64{math.MinInt64, -most, -1, most + 1, 2 * most, math.MaxInt64} {
		if money.Right(x) {
			t.Errorf("Right(%d): want false", x)
		}
	}
}

func TestAdd(t *testing.T) {
	for _, x := range []struct {
		a, b int64
		want answer
	}{
		{0, 0, answer{0, api.OK}},
		{2, 3, answer{5, api.OK}},
		{most - 1, 1, answer{most, api.OK}},
		{most, 0, answer{most, api.OK}},
		{0, most, answer{most, api.OK}},
		{most, 1, answer{0, api.ErrRange}},
		{1, most, answer{0, api.ErrRange}},
		{most, most, answer{0, api.ErrRange}},
		{-1, 2, answer{0, api.ErrArg}},
		{2, -1, answer{0, api.ErrArg}},
		{-1, most, answer{0, api.ErrArg}},
		{most + 1, 0, answer{0, api.ErrArg}},
		{0, most + 1, answer{0, api.ErrArg}},
		{math.MaxInt64, math.MaxInt64, answer{0, api.ErrArg}},
		{math.MinInt64, math.MinInt64, answer{0, api.ErrArg}},
		{math.MinInt64, math.MaxInt64, answer{0, api.ErrArg}},
	} {
		if got := told(money.Add(x.a, x.b)); got != x.want {
			t.Errorf("Add(%d, %d): %v, want %v", x.a, x.b, got, x.want)
		}
	}
}

func TestSub(t *testing.T) {
	for _, x := range []struct {
		a, b int64
		want answer
	}{
		{0, 0, answer{0, api.OK}},
		{5, 3, answer{2, api.OK}},
		{5, 5, answer{0, api.OK}},
		{most, 0, answer{most, api.OK}},
		{most, most, answer{0, api.OK}},
		{most, most - 1, answer{1, api.OK}},
		{3, 5, answer{0, api.ErrRange}},
		{0, 1, answer{0, api.ErrRange}},
		{0, most, answer{0, api.ErrRange}},
		{-1, 0, answer{0, api.ErrArg}},
		{3, -1, answer{0, api.ErrArg}},
		{-3, -2, answer{0, api.ErrArg}},
		{most + 1, 1, answer{0, api.ErrArg}},
		{most + 2, most + 1, answer{0, api.ErrArg}},
		{0, most + 1, answer{0, api.ErrArg}},
		{math.MinInt64, math.MaxInt64, answer{0, api.ErrArg}},
		{0, math.MinInt64, answer{0, api.ErrArg}},
	} {
		if got := told(money.Sub(x.a, x.b)); got != x.want {
			t.Errorf("Sub(%d, %d): %v, want %v", x.a, x.b, got, x.want)
		}
	}
}

func TestMul(t *testing.T) {
	for _, x := range []struct {
		a, n int64
		want answer
	}{
		{0, 0, answer{0, api.OK}},
		{6, 7, answer{42, api.OK}},
		{0, most, answer{0, api.OK}},
		{most, 0, answer{0, api.OK}},
		{most, 1, answer{most, api.OK}},
		{1, most, answer{most, api.OK}},
		{most / 2, 2, answer{most, api.OK}},
		{10_000_000, 10_000_000, answer{most, api.OK}},
		{most/2 + 1, 2, answer{0, api.ErrRange}},
		{10_000_000, 10_000_001, answer{0, api.ErrRange}},
		{10_000_001, 10_000_000, answer{0, api.ErrRange}},
		{1 << 32, 1 << 32, answer{0, api.ErrRange}},
		{1 << 40, 1 << 40, answer{0, api.ErrRange}},
		{most, most, answer{0, api.ErrRange}},
		{-1, 1, answer{0, api.ErrArg}},
		{1, -1, answer{0, api.ErrArg}},
		{-2, -3, answer{0, api.ErrArg}},
		{0, -1, answer{0, api.ErrArg}},
		{-1, 0, answer{0, api.ErrArg}},
		{most + 1, 1, answer{0, api.ErrArg}},
		{1, most + 1, answer{0, api.ErrArg}},
		{most + 1, 0, answer{0, api.ErrArg}},
		{most + 1, most, answer{0, api.ErrArg}},
		{1 << 62, 4, answer{0, api.ErrArg}},
		{math.MinInt64, -1, answer{0, api.ErrArg}},
	} {
		if got := told(money.Mul(x.a, x.n)); got != x.want {
			t.Errorf("Mul(%d, %d): %v, want %v", x.a, x.n, got, x.want)
		}
	}
}

func TestSumsAtAllEdges(t *testing.T) {
	for name, x := range map[string]struct {
		call func(a, b int64) (int64, api.Errno)
		way  func(z, a, b *big.Int) *big.Int
	}{
		"Add": {money.Add, (*big.Int).Add},
		"Sub": {money.Sub, (*big.Int).Sub},
		"Mul": {money.Mul, (*big.Int).Mul},
	} {
		for _, a := range edges() {
			for _, b := range edges() {
				want := answer{0, api.ErrArg}
				if right(a) && right(b) {
					want = ranged(x.way(new(big.Int), big.NewInt(a), big.NewInt(b)))
				}
				if got := told(x.call(a, b)); got != want {
					t.Errorf("%s(%d, %d): %v, want %v", name, a, b, got, want)
				}
			}
		}
	}
}

// P1.2

func TestTimesRounds(t *testing.T) {
	for _, x := range []struct {
		x, num, den            int64
		down, halfUp, halfEven int64
	}{
		{5, 1, 2, 2, 3, 2}, // the example
		{1, 1, 2, 0, 1, 0},
		{3, 1, 2, 1, 2, 2},
		{7, 1, 2, 3, 4, 4},
		{9, 1, 2, 4, 5, 4},
		{5, 3, 6, 2, 3, 2}, // halves that do not look like it
		{1, 5, 10, 0, 1, 0},
		{7, 3, 14, 1, 2, 2},
		{10, 1, 3, 3, 3, 3}, // dens that have no half
		{11, 1, 3, 3, 4, 4},
		{2, 1, 5, 0, 0, 0},
		{3, 1, 5, 0, 1, 1},
		{499, 1, 1_000, 0, 0, 0}, // just below a half, at it, just above
		{500, 1, 1_000, 0, 1, 0},
		{501, 1, 1_000, 0, 1, 1},
		{1_499, 1, 1_000, 1, 1, 1},
		{1_500, 1, 1_000, 1, 2, 2},
		{1_501, 1, 1_000, 1, 2, 2},
		{12, 5, 10, 6, 6, 6}, // nothing to round
		{0, 5, 7, 0, 0, 0},
		{5, 0, 7, 0, 0, 0},
		{0, 0, 1, 0, 0, 0},
	} {
		for round, want := range map[int]int64{api.Down: x.down, api.HalfUp: x.halfUp, api.HalfEven: x.halfEven} {
			if got := told(money.Times(x.x, x.num, x.den, round)); got != (answer{want, api.OK}) {
				t.Errorf("Times(%d, %d, %d, %d): %v, want %d", x.x, x.num, x.den, round, got, want)
			}
		}
	}
}

func TestTimesAtTheEnds(t *testing.T) {
	for _, x := range []struct {
		x, num, den            int64
		down, halfUp, halfEven answer
	}{
		{most, 1, 1, answer{most, api.OK}, answer{most, api.OK}, answer{most, api.OK}},
		{1, most, 1, answer{most, api.OK}, answer{most, api.OK}, answer{most, api.OK}},
		{most, most, most, answer{most, api.OK}, answer{most, api.OK}, answer{most, api.OK}},
		{most, 1, most, answer{1, api.OK}, answer{1, api.OK}, answer{1, api.OK}},
		{most, 0, 1, answer{0, api.OK}, answer{0, api.OK}, answer{0, api.OK}},
		{most / 2, 1, most, answer{0, api.OK}, answer{1, api.OK}, answer{0, api.OK}},
		{most/2 - 1, 1, most, answer{0, api.OK}, answer{0, api.OK}, answer{0, api.OK}},
		{most/2 + 1, 1, most, answer{0, api.OK}, answer{1, api.OK}, answer{1, api.OK}},
		{most - 1, most - 1, most, answer{most - 2, api.OK}, answer{most - 2, api.OK}, answer{most - 2, api.OK}},
		{most - 1, 1, most, answer{0, api.OK}, answer{1, api.OK}, answer{1, api.OK}},
		// At MaxMoney less a half or a third, and half, one, two or four thirds above it, the rounded one counts.
		{8_695_652_173_913, 23, 2, answer{most - 1, api.OK}, answer{most, api.OK}, answer{most, api.OK}},
		{23_076_923_076_923, 13, 3, answer{most - 1, api.OK}, answer{most, api.OK}, answer{most, api.OK}},
		{66_666_666_666_667, 3, 2, answer{most, api.OK}, answer{0, api.ErrRange}, answer{most, api.OK}},
		{42_857_142_857_143, 7, 3, answer{most, api.OK}, answer{most, api.OK}, answer{most, api.OK}},
		{12_598, 23_813_303_699, 3, answer{most, api.OK}, answer{0, api.ErrRange}, answer{0, api.ErrRange}},
		{75_000_000_000_001, 4, 3, answer{0, api.ErrRange}, answer{0, api.ErrRange}, answer{0, api.ErrRange}},
		// One above MaxMoney, in each way.
		{most/2 + 1, 2, 1, answer{0, api.ErrRange}, answer{0, api.ErrRange}, answer{0, api.ErrRange}},
		{most, 2, 1, answer{0, api.ErrRange}, answer{0, api.ErrRange}, answer{0, api.ErrRange}},
		{most, most, 1, answer{0, api.ErrRange}, answer{0, api.ErrRange}, answer{0, api.ErrRange}},
		{most, most, most - 1, answer{0, api.ErrRange}, answer{0, api.ErrRange}, answer{0, api.ErrRange}},
		// Quotients of 2^64 - 1 and of 2^64, which would go round to little ones.
		{1<<40 - 1, 1<<40 + 1, 1 << 16, answer{0, api.ErrRange}, answer{0, api.ErrRange}, answer{0, api.ErrRange}},
		{1 << 40, 1 << 40, 1 << 16, answer{0, api.ErrRange}, answer{0, api.ErrRange}, answer{0, api.ErrRange}},
		{1 << 40, 1 << 24, 1, answer{0, api.ErrRange}, answer{0, api.ErrRange}, answer{0, api.ErrRange}},
	} {
		for round, want := range map[int]answer{api.Down: x.down, api.HalfUp: x.halfUp, api.HalfEven: x.halfEven} {
			if got := told(money.Times(x.x, x.num, x.den, round)); got != want {
				t.Errorf("Times(%d, %d, %d, %d): %v, want %v", x.x, x.num, x.den, round, got, want)
			}
		}
	}
}

// What may not be is told ahead of what would be too great (R5): each of these comes to more than MaxMoney, or would have no quotient.
func TestTimesWrongArguments(t *testing.T) {
	for _, x := range []struct {
		x, num, den int64
		round       int
	}{
		{-1, 1, 1, api.Down}, {1, -1, 1, api.Down}, {-1, -1, 1, api.Down}, {-1, 0, 1, api.Down}, {0, -1, 1, api.Down},
		{most + 1, 1, 1, api.HalfUp}, {1, most + 1, 1, api.HalfUp}, {most + 1, 0, 1, api.HalfUp}, {most + 1, 1, 2, api.HalfUp},
		{1, 1, 0, api.Down}, {0, 0, 0, api.Down}, {1, 1, -1, api.HalfEven}, {1, 1, most + 1, api.HalfEven}, {most, most, most + 1, api.Down},
		{1, 1, 1, -1}, {1, 1, 1, 3}, {1, 1, 1, math.MaxInt}, {1, 1, 1, math.MinInt},
		{most, 2, 1, 3}, {most, 2, 1, -1}, {most, most, 0, api.Down}, {most, most, -1, api.HalfUp}, {most + 1, most, 1, api.HalfEven}, {most, most + 1, 1, api.Down},
		{math.MinInt64, math.MinInt64, math.MinInt64, math.MinInt}, {math.MaxInt64, math.MaxInt64, math.MaxInt64, api.Down},
	} {
		if got := told(money.Times(x.x, x.num, x.den, x.round)); got != (answer{0, api.ErrArg}) {
			t.Errorf("Times(%d, %d, %d, %d): %v, want ErrArg alone", x.x, x.num, x.den, x.round, got)
		}
	}
}

func TestTimesOfAllLittleOnes(t *testing.T) {
	for x := range int64(14) {
		for num := range int64(14) {
			for den := range int64(26) {
				for round := -1; round <= 3; round++ {
					if got, want := told(money.Times(x, num, den, round)), times(x, num, den, round); got != want {
						t.Errorf("Times(%d, %d, %d, %d): %v, want %v", x, num, den, round, got, want)
					}
				}
			}
		}
	}
}

func TestTimesAtAllEdges(t *testing.T) {
	for _, x := range edges() {
		for _, num := range edges() {
			for _, den := range edges() {
				for round := -1; round <= 3; round++ {
					if got, want := told(money.Times(x, num, den, round)), times(x, num, den, round); got != want {
						t.Fatalf("Times(%d, %d, %d, %d): %v, want %v", x, num, den, round, got, want)
					}
				}
			}
		}
	}
}

func TestRate(t *testing.T) {
	for _, x := range []struct {
		x, rate                int64
		down, halfUp, halfEven int64
	}{
		{199, 1_500, 29, 30, 30}, // the example
		{5, 5_000, 2, 3, 2},
		{7, 5_000, 3, 4, 4},
		{77, 0, 0, 0, 0},
		{most, 0, 0, 0, 0},
		{0, 10_000, 0, 0, 0},
		{77, 10_000, 77, 77, 77},
		{most, 10_000, most, most, most},
		{most, 9_999, 99_990_000_000_000, 99_990_000_000_000, 99_990_000_000_000},
		{most, 1, 10_000_000_000, 10_000_000_000, 10_000_000_000},
		{4_999, 1, 0, 0, 0},
		{5_000, 1, 0, 1, 0},
		{5_001, 1, 0, 1, 1},
		{15_000, 1, 1, 2, 2},
		{1, 9_999, 0, 1, 1},
	} {
		for round, want := range map[int]int64{api.Down: x.down, api.HalfUp: x.halfUp, api.HalfEven: x.halfEven} {
			if got := told(money.Rate(x.x, x.rate, round)); got != (answer{want, api.OK}) {
				t.Errorf("Rate(%d, %d, %d): %v, want %d", x.x, x.rate, round, got, want)
			}
		}
	}
}

func TestRateWrongArguments(t *testing.T) {
	for _, x := range []struct {
		x, rate int64
		round   int
	}{
		{100, -1, api.Down}, {100, 10_001, api.Down}, {0, -1, api.HalfUp}, {0, 10_001, api.HalfUp}, {most, 10_001, api.HalfEven},
		{100, most, api.Down}, {100, math.MinInt64, api.Down}, {100, math.MaxInt64, api.Down},
		{-1, 10, api.Down}, {-1, 0, api.Down}, {most + 1, 10, api.Down}, {most + 1, 0, api.HalfUp}, {math.MinInt64, 10_000, api.Down}, {math.MaxInt64, 10_000, api.HalfEven},
		{100, 10, -1}, {100, 10, 3}, {100, 0, 3}, {most, 10_001, 3},
	} {
		if got := told(money.Rate(x.x, x.rate, x.round)); got != (answer{0, api.ErrArg}) {
			t.Errorf("Rate(%d, %d, %d): %v, want ErrArg alone", x.x, x.rate, x.round, got)
		}
	}
}

func TestRateAtAllEdges(t *testing.T) {
	for _, x := range edges() {
		for _, rate := range append(edges(), 1_500, 2_500, 3_333, 5_000, 6_667) {
			for round := -1; round <= 3; round++ {
				want := answer{0, api.ErrArg}
				if 0 <= rate && rate <= 10_000 {
					want = times(x, rate, 10_000, round)
				}
				if got := told(money.Rate(x, rate, round)); got != want {
					t.Errorf("Rate(%d, %d, %d): %v, want %v", x, rate, round, got, want)
				}
			}
		}
	}
}

// The chapter's 'What follows': the nearer ways are off by half of one at most, Down by less than one, and the three never differ by more than one.
func TestWhatIsRoundedIsNear(t *testing.T) {
	for x := range int64(60) {
		for den := int64(1); den <= 60; den++ {
			down, _ := money.Times(x, 7, den, api.Down)
			if off := 7*x - down*den; off < 0 || off >= den {
				t.Errorf("Times(%d, 7, %d, Down): %d is not next below", x, den, down)
			}
			for _, round := range []int{api.HalfUp, api.HalfEven} {
				near, _ := money.Times(x, 7, den, round)
				if off := 2 * (near*den - 7*x); off > den || off < -den || near < down || near > down+1 {
					t.Errorf("Times(%d, 7, %d, %d): %d is not the nearest", x, den, round, near)
				}
			}
		}
	}
}
