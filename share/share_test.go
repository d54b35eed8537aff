package share_test

import (
	"math"
	"math/big"
	"math/rand"
	"slices"
	"testing"

	"haberdash/api"
	"haberdash/share"
)

const most = api.MaxMoney

// answer is what Upto and Piece tell: a value and an error.
type answer struct {
	v int64
	e api.Errno
}

func told(v int64, e api.Errno) answer { return answer{v, e} }

// edges are amounts at and around the ends of what is right, and of what 64 bits hold on the way.
func edges() []int64 {
	return []int64{
		math.MinInt64, -most - 1, -1, 0, 1, 2, 3, 7, 1<<32 + 1, most/3 + 1, most / 2, most/2 + 1,
		most - 1, most, most + 1, 1 << 62, math.MaxInt64,
	}
}

func right(x int64) bool { return 0 <= x && x <= most }

// portion is total times weight by sum, rounded down, and the remainder, in numbers without an end.
func portion(total, weight int64, sum *big.Int) (int64, *big.Int) {
	product := new(big.Int).Mul(big.NewInt(total), big.NewInt(weight))
	part, remainder := product.QuoRem(product, sum, new(big.Int))
	return part.Int64(), remainder
}

// largest is P3.1 in numbers without an end: who gets one more is the first of those that a stable sort lays in front.
func largest(total int64, weights []int64) ([]int64, api.Errno) {
	if !right(total) || len(weights) > 100_000 {
		return nil, api.ErrArg
	}
	sum := new(big.Int)
	for _, w := range weights {
		if !right(w) {
			return nil, api.ErrArg
		}
		sum.Add(sum, big.NewInt(w))
	}
	if sum.Cmp(big.NewInt(most)) > 0 {
		return nil, api.ErrRange
	}
	parts := make([]int64, len(weights))
	if sum.Sign() == 0 {
		if total != 0 {
			return nil, api.ErrNone
		}
		return parts, api.OK
	}
	remainders := make([]*big.Int, len(weights))
	places := make([]int, len(weights))
	left := total
	for i, w := range weights {
		parts[i], remainders[i] = portion(total, w, sum)
		places[i] = i
		left -= parts[i]
	}
	slices.SortStableFunc(places, func(a, b int) int { return remainders[b].Cmp(remainders[a]) })
	for _, i := range places[:left] {
		parts[i]++
	}
	return parts, api.OK
}

// holds holds what Largest tells against the model. A long list is told by its length alone.
func holds(t *testing.T, total int64, weights []int64) {
	t.Helper()
	got, e := share.Largest(total, weights)
	want, wantE := largest(total, weights)
	if e == wantE && slices.Equal(got, want) {
		return
	}
	if len(weights) > 10 {
		t.Fatalf("Largest(%d, %d weights): error %d, want %d, or other parts", total, len(weights), e, wantE)
	}
	t.Fatalf("Largest(%d, %v): %v, error %d; want %v, error %d", total, weights, got, e, want, wantE)
}

// lists calls f with each list of up to n of those numbers.
func lists(n int, of []int64, f func([]int64)) {
	l := make([]int64, 0, n)
	var longer func()
	longer = func() {
		f(l)
		if len(l) == n {
			return
		}
		for _, x := range of {
			l = append(l, x)
			longer()
			l = l[:len(l)-1]
		}
	}
	longer()
}

func added(l []int64) int64 {
	sum := int64(0)
	for _, x := range l {
		sum += x
	}
	return sum
}

// P3.1

func TestLargest(t *testing.T) {
	for name, x := range map[string]struct {
		total   int64
		weights []int64
		want    []int64
	}{
		"the example":                           {10, []int64{1, 1, 1}, []int64{4, 3, 3}},
		"the example of a weight of 0":          {5, []int64{0, 2}, []int64{0, 5}},
		"one alone":                             {7, []int64{3}, []int64{7}},
		"nothing left over":                     {12, []int64{1, 2, 3}, []int64{2, 4, 6}},
		"one left over, for a later one":        {100, []int64{1, 2, 4}, []int64{14, 29, 57}},
		"one left over, for the least weight":   {5, []int64{3, 3, 1}, []int64{2, 2, 1}},
		"two left over, not for the first":      {4, []int64{1, 4, 4}, []int64{0, 2, 2}},
		"three left over of four":               {3, []int64{5, 5, 5, 5}, []int64{1, 1, 1, 0}},
		"as many left over as weights, less 1":  {8, []int64{1, 1, 1}, []int64{3, 3, 2}},
		"equal remainders":                      {2, []int64{1, 1, 1, 1}, []int64{1, 1, 0, 0}},
		"equal remainders, lesser ones between": {6, []int64{1, 2, 2, 1, 3}, []int64{1, 1, 1, 1, 2}},
		"equal remainders, a weight of 0 ahead": {1, []int64{0, 1, 1}, []int64{0, 1, 0}},
		"equal remainders, little weight first": {2, []int64{1, 3}, []int64{1, 1}},
		"equal remainders, great weight first":  {2, []int64{3, 1}, []int64{2, 0}},
		"one left over, for the middle one":     {3, []int64{4, 5, 1}, []int64{1, 2, 0}},
		"remainders of 0 beside others":         {4, []int64{4, 2, 1, 1}, []int64{2, 1, 1, 0}},
		"weights of 0 between":                  {5, []int64{0, 1, 0, 1, 0}, []int64{0, 3, 0, 2, 0}},
		"a total of 0":                          {0, []int64{3, 0, 5}, []int64{0, 0, 0}},
		"a total below the number of weights":   {1, []int64{1, 1, 2}, []int64{0, 0, 1}},
		"weights of which each is a whole":      {most, []int64{1, 0, 1}, []int64{most / 2, 0, most / 2}},
		"a great total, one left over":          {most, []int64{1, 1, 1}, []int64{33_333_333_333_334, 33_333_333_333_333, 33_333_333_333_333}},
		"great weights, a little total":         {1, []int64{most/2 - 1, most/2 + 1}, []int64{0, 1}},
		"great weights that are alike":          {1, []int64{most / 2, most / 2}, []int64{1, 0}},
	} {
		got, e := share.Largest(x.total, x.weights)
		if e != api.OK || !slices.Equal(got, x.want) {
			t.Errorf("%s: Largest(%d, %v): %v, error %d; want %v", name, x.total, x.weights, got, e, x.want)
		}
	}
}

func TestLargestWithoutWeights(t *testing.T) {
	for _, weights := range [][]int64{nil, {}} {
		if got, e := share.Largest(0, weights); e != api.OK || len(got) != 0 {
			t.Errorf("Largest(0, %v): %v, error %d; want no parts", weights, got, e)
		}
		for _, total := range []int64{1, most} {
			if got, e := share.Largest(total, weights); e != api.ErrNone || got != nil {
				t.Errorf("Largest(%d, %v): %v, error %d; want ErrNone alone", total, weights, got, e)
			}
		}
		for _, total := range []int64{-1, most + 1} {
			if got, e := share.Largest(total, weights); e != api.ErrArg || got != nil {
				t.Errorf("Largest(%d, %v): %v, error %d; want ErrArg alone", total, weights, got, e)
			}
		}
	}
}

func TestLargestOfWeightsThatAreAllNothing(t *testing.T) {
	for _, n := range []int{1, 2, 7, api.MaxUnits} {
		weights := make([]int64, n)
		if got, e := share.Largest(0, weights); e != api.OK || !slices.Equal(got, weights) {
			t.Errorf("Largest(0, %d weights of 0): %d parts, error %d; want as many parts of 0", n, len(got), e)
		}
		for _, total := range []int64{1, 5, most} {
			if got, e := share.Largest(total, weights); e != api.ErrNone || got != nil {
				t.Errorf("Largest(%d, %d weights of 0): %d parts, error %d; want ErrNone alone", total, n, len(got), e)
			}
		}
	}
}

func TestLargestAtTheEndOfTheSum(t *testing.T) {
	for name, x := range map[string]struct {
		total   int64
		weights []int64
		want    []int64
		e       api.Errno
	}{
		"one weight":                          {most, []int64{most}, []int64{most}, api.OK},
		"one weight, no total":                {0, []int64{most}, []int64{0}, api.OK},
		"just MaxMoney":                       {most, []int64{most - 1, 1}, []int64{most - 1, 1}, api.OK},
		"just MaxMoney, of three":             {7, []int64{0, most - 7, 7}, []int64{0, 7, 0}, api.OK},
		"a remainder of MaxMoney less 1":      {most - 1, []int64{most - 1, 1}, []int64{most - 2, 1}, api.OK},
		"one above":                           {most, []int64{most, 1}, nil, api.ErrRange},
		"one above, the other way":            {most, []int64{1, most}, nil, api.ErrRange},
		"one above, at the last one":          {1, []int64{most / 2, most / 2, 0, 1}, nil, api.ErrRange},
		"one above, and a total of 0":         {0, []int64{most, 1}, nil, api.ErrRange},
		"far above":                           {1, []int64{most, most, most}, nil, api.ErrRange},
		"far above, and what is not right":    {1, []int64{most, most, -1}, nil, api.ErrArg},
		"that would go back with -1":          {1, []int64{most, 1, -1}, nil, api.ErrArg},
		"above, and a weight that is too big": {1, []int64{most, 1, most + 1}, nil, api.ErrArg},
		"above, and a total that is too big":  {most + 1, []int64{most, 1}, nil, api.ErrArg},
		"above, and a total below 0":          {-1, []int64{most, 1}, nil, api.ErrArg},
	} {
		got, e := share.Largest(x.total, x.weights)
		if e != x.e || !slices.Equal(got, x.want) {
			t.Errorf("%s: Largest(%d, %v): %v, error %d; want %v, error %d", name, x.total, x.weights, got, e, x.want, x.e)
		}
	}
}

// same is n weights of w.
func same(n int, w int64) []int64 {
	l := make([]int64, n)
	for i := range l {
		l[i] = w
	}
	return l
}

func TestLargestOfMaxUnitsWeights(t *testing.T) {
	const each = most / api.MaxUnits
	holds(t, most, same(api.MaxUnits, each)) // their sum is MaxMoney
	holds(t, most-1, same(api.MaxUnits, each))
	holds(t, 1, same(api.MaxUnits, each))
	holds(t, api.MaxUnits-1, same(api.MaxUnits, 1)) // all but one of them get one more
	above := same(api.MaxUnits, each)
	above[api.MaxUnits-1]++
	for _, weights := range [][]int64{above, same(api.MaxUnits, most)} { // the sum of the second would go round
		if got, e := share.Largest(0, weights); e != api.ErrRange || got != nil {
			t.Errorf("Largest of weights whose sum is above MaxMoney: %d parts, error %d; want ErrRange alone", len(got), e)
		}
	}
	for name, weights := range map[string][]int64{
		"of 0":                         make([]int64, api.MaxUnits+1), // ErrNone is named behind
		"of 1":                         same(api.MaxUnits+1, 1),
		"with a sum that is too great": same(api.MaxUnits+1, most), // ErrRange is named behind
	} {
		for _, total := range []int64{0, 1, most} {
			if got, e := share.Largest(total, weights); e != api.ErrArg || got != nil {
				t.Errorf("Largest(%d) of one weight more than MaxUnits, %s: %d parts, error %d; want ErrArg alone", total, name, len(got), e)
			}
		}
	}
}

func TestLargestWrongArguments(t *testing.T) {
	for _, x := range []struct {
		total   int64
		weights []int64
	}{
		{-1, []int64{1}}, {most + 1, []int64{1}}, {math.MinInt64, []int64{1}}, {math.MaxInt64, []int64{1}},
		{1, []int64{-1}}, {1, []int64{1, -1}}, {1, []int64{-1, 2}}, {0, []int64{-1}}, {0, []int64{0, -1}},
		{1, []int64{most + 1}}, {1, []int64{0, most + 1}}, {0, []int64{math.MaxInt64}}, {0, []int64{math.MinInt64}},
		{1, []int64{math.MaxInt64, math.MaxInt64, 3}},                       // would go round to 1
		{-1, []int64{0, 0}}, {most + 1, []int64{0, 0}}, {1, []int64{-1, 1}}, // ErrNone is named behind
	} {
		if got, e := share.Largest(x.total, x.weights); e != api.ErrArg || got != nil {
			t.Errorf("Largest(%d, %v): %v, error %d; want ErrArg alone", x.total, x.weights, got, e)
		}
	}
}

func TestLargestOfAllLittleOnes(t *testing.T) {
	lists(4, []int64{-1, 0, 1, 2, 3, 5}, func(weights []int64) {
		for total := int64(-1); total <= 13; total++ {
			holds(t, total, weights)
		}
	})
}

func TestLargestAtAllEdges(t *testing.T) {
	lists(3, edges(), func(weights []int64) {
		for _, total := range edges() {
			holds(t, total, weights)
		}
	})
}

func TestLargestOfMany(t *testing.T) {
	r := rand.New(rand.NewSource(31))
	for _, n := range []int{5, 40, 1_000, api.MaxUnits} {
		for _, bound := range []int64{2, 10, most / int64(n)} { // of little ones many remainders are equal
			for _, total := range []int64{1, int64(n) / 2, r.Int63n(most), most} {
				weights := make([]int64, n)
				for i := range weights {
					weights[i] = r.Int63n(bound + 1)
				}
				holds(t, total, weights)
			}
		}
	}
}

// The chapter's 'What follows': parts come to the total, each off by less than one.
func TestPartsComeToTheTotal(t *testing.T) {
	r := rand.New(rand.NewSource(32))
	for range 2_000 {
		weights := make([]int64, 1+r.Intn(12))
		for i := range weights {
			weights[i] = r.Int63n([]int64{4, 1_000, most / 12}[r.Intn(3)])
		}
		sum, total := added(weights), r.Int63n(most+1)
		if sum == 0 {
			continue
		}
		parts, e := share.Largest(total, weights)
		if e != api.OK || added(parts) != total {
			t.Fatalf("Largest(%d, %v): %v, error %d, come to %d", total, weights, parts, e, added(parts))
		}
		for i, part := range parts {
			if down, left := portion(total, weights[i], big.NewInt(sum)); part != down && (part != down+1 || left.Sign() == 0) {
				t.Fatalf("Largest(%d, %v): %v: the part %d is off by one or more", total, weights, parts, i)
			}
		}
	}
}

// What is handed in stays, with the room behind its end (R3).
func TestLargestLeavesWeights(t *testing.T) {
	for name, x := range map[string]struct {
		total int64
		room  []int64
		e     api.Errno
	}{
		"parts":           {10, []int64{3, 1, 2, 77, 78, 79}, api.OK},
		"parts of 0":      {0, []int64{0, 0, 0, 77, 78, 79}, api.OK},
		"none":            {1, []int64{0, 0, 0, 77, 78, 79}, api.ErrNone},
		"a sum too great": {1, []int64{most, 1, 2, 77, 78, 79}, api.ErrRange},
		"a wrong one":     {1, []int64{5, -1, 2, 77, 78, 79}, api.ErrArg},
	} {
		want := slices.Clone(x.room)
		if _, e := share.Largest(x.total, x.room[:3]); e != x.e {
			t.Errorf("%s: error %d, want %d", name, e, x.e)
		}
		if !slices.Equal(x.room, want) {
			t.Errorf("%s: weights, with the room behind them: %v, want %v", name, x.room, want)
		}
	}
}

// What is handed out is new memory, and what is handed in is not kept (R3).
func TestLargestKeepsNothing(t *testing.T) {
	for name, x := range map[string]struct {
		total         int64
		weights, want []int64
	}{
		"parts":      {10, []int64{1, 1, 1}, []int64{4, 3, 3}},
		"parts of 0": {0, []int64{0, 0, 0}, []int64{0, 0, 0}},
	} {
		weights := slices.Clone(x.weights)
		first, _ := share.Largest(x.total, weights)
		second, _ := share.Largest(x.total, weights)
		first = append(first[:0], 50, 51, 52, 53)
		if !slices.Equal(weights, x.weights) || !slices.Equal(second, x.want) {
			t.Errorf("%s: after another answer was written to, weights are %v, parts %v", name, weights, second)
		}
		weights[0], weights[1], weights[2] = 90, 91, 92
		if !slices.Equal(second, x.want) || first[0] != 50 {
			t.Errorf("%s: after weights were written to, parts are %v and %v", name, first, second)
		}
		if third, _ := share.Largest(x.total, x.weights); !slices.Equal(third, x.want) {
			t.Errorf("%s: asked once more: %v, want %v", name, third, x.want)
		}
	}
}

// P3.2

// upto is P3.2 in numbers without an end.
func upto(total int64, n, k int) answer {
	if !right(total) || n < 1 || n > 100_000 || k < 0 || k > n {
		return answer{0, api.ErrArg}
	}
	v, _ := portion(total, int64(k), big.NewInt(int64(n)))
	return answer{v, api.OK}
}

// piece is P3.2 in numbers without an end.
func piece(total int64, n, from, to int) answer {
	if from < 0 || from > to || upto(total, n, to).e != api.OK {
		return answer{0, api.ErrArg}
	}
	return answer{upto(total, n, to).v - upto(total, n, from).v, api.OK}
}

// counts are numbers of parts at and around the ends of what may be.
func counts() []int {
	return []int{
		math.MinInt, -1, 0, 1, 2, 3, 7, api.MaxUnits/2 + 1,
		api.MaxUnits - 1, api.MaxUnits, api.MaxUnits + 1, math.MaxInt,
	}
}

func TestUpto(t *testing.T) {
	for _, x := range []struct {
		total int64
		n, k  int
		want  int64
	}{
		{10, 3, 1, 3}, {10, 3, 2, 6}, // the example
		{10, 3, 0, 0}, {10, 3, 3, 10},
		{0, 3, 0, 0}, {0, 3, 2, 0}, {0, 1, 1, 0},
		{10, 1, 0, 0}, {10, 1, 1, 10}, // the least n
		{10, 4, 1, 2}, {10, 4, 2, 5}, {10, 4, 3, 7}, // down, also what is half or nearly one more
		{2, 7, 3, 0}, {2, 7, 4, 1}, {2, 7, 6, 1}, {2, 7, 7, 2},
		{199, 100, 99, 197},
		{99, api.MaxUnits, 1, 0}, {99, api.MaxUnits, api.MaxUnits - 1, 98}, {99, api.MaxUnits, api.MaxUnits, 99},
		{most, api.MaxUnits, 0, 0}, {most, api.MaxUnits, 1, 1_000_000_000},
		{most, api.MaxUnits, api.MaxUnits - 1, 99_999_000_000_000}, {most, api.MaxUnits, api.MaxUnits, most}, // total times k is above 2^63
		{most - 1, api.MaxUnits, api.MaxUnits - 1, 99_998_999_999_999}, {most, 3, 2, 66_666_666_666_666}, {most, 1, 1, most},
	} {
		if got := told(share.Upto(x.total, x.n, x.k)); got != (answer{x.want, api.OK}) {
			t.Errorf("Upto(%d, %d, %d): %v, want %d", x.total, x.n, x.k, got, x.want)
		}
	}
}

func TestUptoWrongArguments(t *testing.T) {
	for _, x := range []struct {
		total int64
		n, k  int
	}{
		{-1, 3, 1}, {-1, 3, 0}, {most + 1, 3, 1}, {most + 1, 3, 0}, {math.MinInt64, 1, 1}, {math.MaxInt64, 1, 1},
		{10, 0, 0}, {10, -1, 0}, {10, -1, -1}, {10, math.MinInt, 0}, {0, 0, 0},
		{10, api.MaxUnits + 1, 0}, {10, api.MaxUnits + 1, 1}, {10, api.MaxUnits + 1, api.MaxUnits + 1}, {10, math.MaxInt, 1},
		{10, 3, -1}, {10, 3, 4}, {0, 3, -1}, {0, 3, 4}, {10, 1, 2}, {10, api.MaxUnits, api.MaxUnits + 1}, {10, 3, math.MinInt}, {10, 3, math.MaxInt},
	} {
		if got := told(share.Upto(x.total, x.n, x.k)); got != (answer{0, api.ErrArg}) {
			t.Errorf("Upto(%d, %d, %d): %v, want ErrArg alone", x.total, x.n, x.k, got)
		}
	}
}

func TestPiece(t *testing.T) {
	for _, x := range []struct {
		total       int64
		n, from, to int
		want        int64
	}{
		{10, 3, 0, 1, 3}, {10, 3, 1, 2, 3}, {10, 3, 2, 3, 4}, {10, 3, 0, 2, 6}, {10, 3, 1, 3, 7}, {10, 3, 0, 3, 10},
		{10, 3, 0, 0, 0}, {10, 3, 2, 2, 0}, {10, 3, 3, 3, 0}, {10, 1, 1, 1, 0}, {10, 1, 0, 1, 10},
		{10, 4, 0, 1, 2}, {10, 4, 1, 2, 3}, {10, 4, 2, 3, 2}, {10, 4, 3, 4, 3}, // not each as great as another one
		{0, 3, 0, 3, 0}, {0, 1, 0, 0, 0},
		{most, api.MaxUnits, 0, api.MaxUnits, most}, {most, api.MaxUnits, api.MaxUnits - 1, api.MaxUnits, 1_000_000_000},
		{most - 1, api.MaxUnits, 0, 1, 999_999_999}, {most - 1, api.MaxUnits, api.MaxUnits - 1, api.MaxUnits, 1_000_000_000}, {most, api.MaxUnits, api.MaxUnits, api.MaxUnits, 0},
	} {
		if got := told(share.Piece(x.total, x.n, x.from, x.to)); got != (answer{x.want, api.OK}) {
			t.Errorf("Piece(%d, %d, %d, %d): %v, want %d", x.total, x.n, x.from, x.to, got, x.want)
		}
	}
}

func TestPieceWrongArguments(t *testing.T) {
	for _, x := range []struct {
		total       int64
		n, from, to int
	}{
		{-1, 3, 0, 1}, {-1, 3, 1, 1}, {most + 1, 3, 0, 1}, {most + 1, 3, 0, 0}, {math.MinInt64, 1, 0, 1}, {math.MaxInt64, 1, 0, 1},
		{10, 0, 0, 0}, {10, -1, 0, 0}, {10, -3, -3, -3}, {10, api.MaxUnits + 1, 0, 1}, {10, api.MaxUnits + 1, 1, 1}, {10, math.MaxInt, 0, 1}, {10, math.MinInt, 0, 0},
		{10, 3, -1, 1}, {10, 3, -1, -1}, {10, 3, -1, 0}, {10, 3, math.MinInt, 3}, {0, 3, -1, 3},
		{10, 3, 2, 1}, {10, 3, 1, 0}, {10, 3, 3, 0}, {10, 3, 0, -1}, {10, 3, math.MaxInt, math.MinInt},
		{0, 3, 2, 1}, {1, 3, 2, 1}, {1, 9, 4, 3}, // both of their Uptos are 0
		{10, 3, 1, 4}, {10, 3, 0, 4}, {10, 3, 4, 4}, {10, 3, 4, 5}, {10, 3, 4, 3}, {10, 3, 0, math.MaxInt}, {10, api.MaxUnits, 0, api.MaxUnits + 1}, {0, 3, 4, 4},
	} {
		if got := told(share.Piece(x.total, x.n, x.from, x.to)); got != (answer{0, api.ErrArg}) {
			t.Errorf("Piece(%d, %d, %d, %d): %v, want ErrArg alone", x.total, x.n, x.from, x.to, got)
		}
	}
}

// holdsPieces holds what Upto and Piece tell against the model, for each k, from and to of those.
func holdsPieces(t *testing.T, total int64, n int, of []int) {
	t.Helper()
	for _, to := range of {
		if got, want := told(share.Upto(total, n, to)), upto(total, n, to); got != want {
			t.Fatalf("Upto(%d, %d, %d): %v, want %v", total, n, to, got, want)
		}
		for _, from := range of {
			if got, want := told(share.Piece(total, n, from, to)), piece(total, n, from, to); got != want {
				t.Fatalf("Piece(%d, %d, %d, %d): %v, want %v", total, n, from, to, got, want)
			}
		}
	}
}

func TestPiecesOfAllLittleOnes(t *testing.T) {
	for total := int64(-1); total <= 16; total++ {
		for n := -1; n <= 9; n++ {
			holdsPieces(t, total, n, []int{-2, -1, 0, 1, 2, 3, 4, 5, 6, 7, 8, 9, 10})
		}
	}
}

func TestPiecesAtAllEdges(t *testing.T) {
	for _, total := range edges() {
		for _, n := range counts() {
			holdsPieces(t, total, n, counts())
		}
	}
}

// The chapter's 'What follows': pieces that follow one another come to the total, wherever it is cut.
func TestPiecesThatFollowComeToTheTotal(t *testing.T) {
	r := rand.New(rand.NewSource(33))
	for range 500 {
		n := 1 + r.Intn([]int{5, 100, api.MaxUnits}[r.Intn(3)])
		total := r.Int63n([]int64{20, most + 1}[r.Intn(2)])
		sum, at := int64(0), 0
		for at < n {
			to := at + 1 + r.Intn(n-at)
			v, e := share.Piece(total, n, at, to)
			if e != api.OK || v < 0 {
				t.Fatalf("Piece(%d, %d, %d, %d): %d, error %d", total, n, at, to, v, e)
			}
			sum, at = sum+v, to
		}
		if sum != total {
			t.Fatalf("pieces of %d in %d come to %d", total, n, sum)
		}
	}
}
