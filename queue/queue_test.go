package queue_test

import (
	"cmp"
	"math"
	"math/rand"
	"slices"
	"testing"

	"haberdash/queue"
)

// one is a rank, and the number of who has it.
type one struct {
	rank int64
	n    int
}

// told is what Peek or Pop answers.
type told struct {
	rank int64
	n    int
	ok   bool
}

// byAhead is the chapter's word: the greater rank, of equal ones the lesser number.
func byAhead(a, b one) int {
	if c := cmp.Compare(b.rank, a.rank); c != 0 {
		return c
	}
	return cmp.Compare(a.n, b.n)
}

func peek(q *queue.Queue) told {
	rank, n, ok := q.Peek()
	return told{rank, n, ok}
}

func pop(q *queue.Queue) told {
	rank, n, ok := q.Pop()
	return told{rank, n, ok}
}

func pushed(l []one) *queue.Queue {
	q := queue.New()
	for _, x := range l {
		q.Push(x.rank, x.n)
	}
	return q
}

// drains holds all that q tells, until it is empty, against want.
func drains(t *testing.T, q *queue.Queue, want []one) {
	t.Helper()
	for i, x := range want {
		if got := q.Len(); got != len(want)-i {
			t.Fatalf("Len ahead of pop %d: %d, want %d", i, got, len(want)-i)
		}
		if got := peek(q); got != (told{x.rank, x.n, true}) {
			t.Fatalf("Peek ahead of pop %d: %v, want %v", i, got, x)
		}
		if got := pop(q); got != (told{x.rank, x.n, true}) {
			t.Fatalf("Pop %d: %v, want %v", i, got, x)
		}
	}
	isEmpty(t, q)
}

func isEmpty(t *testing.T, q *queue.Queue) {
	t.Helper()
	for range 2 { // asking changes nothing
		if got := q.Len(); got != 0 {
			t.Errorf("Len of nothing: %d", got)
		}
		if got := peek(q); got != (told{}) {
			t.Errorf("Peek of nothing: %v", got)
		}
		if got := pop(q); got != (told{}) {
			t.Errorf("Pop of nothing: %v", got)
		}
	}
}

// orders calls f with l in each order that it can stand in.
func orders(l []one, f func([]one)) {
	var place func(n int)
	place = func(n int) {
		if n == len(l) {
			f(slices.Clone(l))
			return
		}
		for i := n; i < len(l); i++ {
			l[n], l[i] = l[i], l[n]
			place(n + 1)
			l[n], l[i] = l[i], l[n]
		}
	}
	place(0)
}

// P2.1

func TestNewIsEmpty(t *testing.T) {
	q := queue.New()
	if q == nil {
		t.Fatal("New: nil")
	}
	isEmpty(t, q)
	q.Push(0, 0) // one of zeros is one: it alone differs from nothing by true and Len
	drains(t, q, []one{{0, 0}})
}

func TestZeroValueIsEmpty(t *testing.T) {
	var q queue.Queue
	isEmpty(t, &q)
	q.Push(3, 4)
	drains(t, &q, []one{{3, 4}})
}

func TestNilHasNothing(t *testing.T) {
	var q *queue.Queue
	isEmpty(t, q)
	q.Push(3, 4)
	isEmpty(t, q)
}

func TestPopsWhoIsAhead(t *testing.T) {
	for name, x := range map[string]struct{ in, want []one }{
		"one":               {[]one{{-7, -9}}, []one{{-7, -9}}},
		"the greater rank":  {[]one{{1, 1}, {3, 9}, {2, 5}}, []one{{3, 9}, {2, 5}, {1, 1}}},
		"rank over number":  {[]one{{1, -50}, {2, 50}}, []one{{2, 50}, {1, -50}}},
		"ranks below 0":     {[]one{{-1, 0}, {-3, 0}, {0, 0}, {-2, 0}}, []one{{0, 0}, {-1, 0}, {-2, 0}, {-3, 0}}},
		"equal ranks":       {[]one{{5, 2}, {5, 0}, {5, 1}}, []one{{5, 0}, {5, 1}, {5, 2}}},
		"numbers below 0":   {[]one{{5, 0}, {5, -2}, {5, 1}, {5, -1}}, []one{{5, -2}, {5, -1}, {5, 0}, {5, 1}}},
		"the same twice":    {[]one{{2, 1}, {4, 3}, {2, 1}, {4, 3}}, []one{{4, 3}, {4, 3}, {2, 1}, {2, 1}}},
		"far ranks":         {[]one{{math.MinInt64, 0}, {math.MaxInt64, 0}, {0, 0}}, []one{{math.MaxInt64, 0}, {0, 0}, {math.MinInt64, 0}}},
		"ranks at the ends": {[]one{{math.MinInt64, 0}, {math.MinInt64 + 1, 0}, {math.MaxInt64 - 1, 0}, {math.MaxInt64, 0}}, []one{{math.MaxInt64, 0}, {math.MaxInt64 - 1, 0}, {math.MinInt64 + 1, 0}, {math.MinInt64, 0}}},
		"ranks one apart that 53 bits do not tell": {[]one{{1 << 53, 0}, {1<<53 + 1, 0}}, []one{{1<<53 + 1, 0}, {1 << 53, 0}}},
		"numbers at the ends":                      {[]one{{1, math.MaxInt}, {1, math.MinInt}, {1, 0}, {1, math.MaxInt - 1}, {1, math.MinInt + 1}}, []one{{1, math.MinInt}, {1, math.MinInt + 1}, {1, 0}, {1, math.MaxInt - 1}, {1, math.MaxInt}}},
		"both at the ends":                         {[]one{{math.MinInt64, math.MinInt}, {math.MaxInt64, math.MaxInt}, {math.MinInt64, math.MaxInt}, {math.MaxInt64, math.MinInt}}, []one{{math.MaxInt64, math.MinInt}, {math.MaxInt64, math.MaxInt}, {math.MinInt64, math.MinInt}, {math.MinInt64, math.MaxInt}}},
	} {
		t.Run(name, func(t *testing.T) { drains(t, pushed(x.in), x.want) })
	}
}

func TestPeekLeavesAll(t *testing.T) {
	q := pushed([]one{{1, 1}, {2, 2}})
	for range 5 {
		if got := peek(q); got != (told{2, 2, true}) {
			t.Fatalf("Peek: %v, want 2, 2", got)
		}
		if got := q.Len(); got != 2 {
			t.Fatalf("Len: %d, want 2", got)
		}
	}
	drains(t, q, []one{{2, 2}, {1, 1}})
}

// The chapter's 'What follows': what is pushed in any order is popped in one.
func TestAnyOrderIsPoppedInOne(t *testing.T) {
	l := []one{{3, 1}, {3, 0}, {7, 5}, {-2, 5}, {3, 1}, {7, -5}, {math.MinInt64, 0}}
	want := slices.SortedFunc(slices.Values(l), byAhead)
	n := 0
	orders(l, func(l []one) {
		n++
		drains(t, pushed(l), want)
	})
	if n != 5_040 {
		t.Errorf("%d orders were tried", n)
	}
}

func TestPushBetweenPops(t *testing.T) {
	q := pushed([]one{{1, 1}, {5, 1}})
	if got := pop(q); got != (told{5, 1, true}) {
		t.Fatalf("%v, want 5, 1", got)
	}
	q.Push(9, 1) // ahead of who waits
	q.Push(1, 0) // beside it, and ahead
	q.Push(0, 0) // behind
	drains(t, q, []one{{9, 1}, {1, 0}, {1, 1}, {0, 0}})
	q.Push(4, 4) // who was empty is filled again
	drains(t, q, []one{{4, 4}})
}

// Plays hold a queue against a list that is kept in order, with few ranks and numbers, so that many are equal, and with any ones.
func TestPlays(t *testing.T) {
	r := rand.New(rand.NewSource(2))
	little := func() one { return one{int64(r.Intn(7) - 3), r.Intn(7) - 3} }
	wide := func() one { return one{int64(r.Uint64()), int(r.Uint64())} }
	for _, next := range []func() one{little, wide} {
		for _, pushes := range []int{3, 5, 7} { // of ten
			play(t, r, next, pushes)
		}
	}
}

func play(t *testing.T, r *rand.Rand, next func() one, pushes int) {
	t.Helper()
	q := queue.New()
	var l []one
	for range 2_000 {
		if r.Intn(10) < pushes {
			x := next()
			q.Push(x.rank, x.n)
			at, _ := slices.BinarySearchFunc(l, x, byAhead)
			l = slices.Insert(l, at, x)
		} else {
			var want told
			if len(l) > 0 {
				want, l = told{l[0].rank, l[0].n, true}, l[1:]
			}
			if got := pop(q); got != want {
				t.Fatalf("Pop: %v, want %v", got, want)
			}
		}
		if got := q.Len(); got != len(l) {
			t.Fatalf("Len: %d, want %d", got, len(l))
		}
	}
	drains(t, q, l)
}

func TestTwoBesideEachOther(t *testing.T) {
	a, b, empty := queue.New(), queue.New(), queue.New()
	for i := range 20 {
		a.Push(int64(i), i)
		b.Push(int64(-i), 100+i)
	}
	for i := range 20 {
		if got := pop(a); got != (told{int64(19 - i), 19 - i, true}) {
			t.Fatalf("Pop %d of the first: %v", i, got)
		}
		if got := b.Len(); got != 20-i {
			t.Fatalf("Len of the second at %d: %d", i, got)
		}
		if got := pop(b); got != (told{int64(-i), 100 + i, true}) {
			t.Fatalf("Pop %d of the second: %v", i, got)
		}
	}
	for _, q := range []*queue.Queue{a, b, empty} {
		isEmpty(t, q)
	}
}

// P2.2

func TestOrder(t *testing.T) {
	for name, x := range map[string]struct {
		ranks []int64
		want  []int
	}{
		"nil":                {nil, nil},
		"empty":              {[]int64{}, nil},
		"one":                {[]int64{-4}, []int{0}},
		"the example":        {[]int64{3, 7, 3}, []int{1, 0, 2}},
		"rising":             {[]int64{1, 2, 3, 4}, []int{3, 2, 1, 0}},
		"falling":            {[]int64{4, 3, 2, 1}, []int{0, 1, 2, 3}},
		"all equal":          {[]int64{0, 0, 0, 0, 0, 0, 0, 0}, []int{0, 1, 2, 3, 4, 5, 6, 7}},
		"equal ones far off": {[]int64{9, 1, 5, 1, 9, 5, 9}, []int{0, 4, 6, 2, 5, 1, 3}},
		"below 0":            {[]int64{-1, -3, 0, -2}, []int{2, 0, 3, 1}},
		"at the ends":        {[]int64{math.MinInt64, math.MaxInt64, 0, math.MinInt64 + 1, math.MaxInt64 - 1, math.MinInt64, math.MaxInt64}, []int{1, 6, 4, 2, 3, 0, 5}},
	} {
		if got := queue.Order(x.ranks); !slices.Equal(got, x.want) {
			t.Errorf("%s: Order(%v): %v, want %v", name, x.ranks, got, x.want)
		}
	}
}

func TestOrderOfMany(t *testing.T) {
	r := rand.New(rand.NewSource(3))
	for _, n := range []int{2, 3, 7, 8, 9, 100, 1_000, 100_000} {
		for _, ranks := range []int{1, 2, 10, 1_000_000} { // few of them: many are equal
			l := make([]int64, n)
			want := make([]int, n)
			for i := range l {
				l[i], want[i] = int64(r.Intn(ranks)), i
			}
			slices.SortStableFunc(want, func(a, b int) int { return cmp.Compare(l[b], l[a]) })
			if !slices.Equal(queue.Order(l), want) {
				t.Errorf("Order of %d of %d ranks is not who is ahead first", n, ranks)
			}
		}
	}
}

// What is handed in stays, with the room behind its end (R3).
func TestOrderLeavesRanks(t *testing.T) {
	room := []int64{3, 7, 3, 5, 11, 12, 13}
	queue.Order(room[:4])
	if want := []int64{3, 7, 3, 5, 11, 12, 13}; !slices.Equal(room, want) {
		t.Errorf("ranks, with the room behind them: %v, want %v", room, want)
	}
}

// What is handed out is new memory, and what is handed in is not kept (R3).
func TestOrderKeepsNothing(t *testing.T) {
	ranks := []int64{3, 7, 3}
	first := queue.Order(ranks)
	second := queue.Order(ranks)
	first = append(first[:0], 50, 51, 52, 53)
	ranks[0], ranks[1], ranks[2] = 1, 2, 3
	if want := []int{1, 0, 2}; !slices.Equal(second, want) {
		t.Errorf("an answer after another was written to: %v, want %v", second, want)
	}
	if got, want := queue.Order(ranks), []int{2, 1, 0}; !slices.Equal(got, want) {
		t.Errorf("Order(%v): %v, want %v", ranks, got, want)
	}
	if first[0] != 50 || ranks[0] != 1 {
		t.Error("what the caller wrote was changed")
	}
}

// Order hangs on its ranks alone, whatever else waits (R2).
func TestOrderBesideAQueue(t *testing.T) {
	q := pushed([]one{{100, 7}, {-100, 8}})
	if got, want := queue.Order([]int64{1, 2}), []int{1, 0}; !slices.Equal(got, want) {
		t.Errorf("Order: %v, want %v", got, want)
	}
	drains(t, q, []one{{100, 7}, {-100, 8}})
}
