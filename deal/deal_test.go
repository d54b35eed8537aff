package deal_test

import (
	"fmt"
	"math"
	"math/big"
	"math/rand"
	"reflect"
	"slices"
	"sync"
	"testing"

	"haberdash/api"
	"haberdash/cut"
	"haberdash/deal"
	"haberdash/promo"
)

// The chapter's words once more, with the limits as numbers, and sums in numbers without an end. Which promos are right is told by chapter 12, and which units and places may be by chapter 15.

func num(x int64) *big.Int { return big.NewInt(x) }

// places is all places of n things.
func places(n int) []int {
	l := make([]int, 0, n)
	for i := range n {
		l = append(l, i)
	}
	return l
}

// rated is rate of x, of two whole numbers that are as near the greater.
func rated(x *big.Int, rate int64) *big.Int {
	twice := new(big.Int).Mul(x, num(2*rate))
	return twice.Quo(twice.Add(twice, num(10_000)), num(20_000))
}

// ranked is mine from the dearest to the cheapest: a stable sort leaves those of one Net in the order of their places.
func ranked(units []api.Unit, mine []int) []int {
	l := slices.Clone(mine)
	slices.Sort(l)
	slices.SortStableFunc(l, func(a, b int) int { return num(units[b].Net).Cmp(num(units[a].Net)) })
	return l
}

// taking is what comes off of units, and which of them are Open no more where the promo Closes.
type taking struct {
	off    map[int]*big.Int
	closed map[int]bool
}

func newTaking() taking { return taking{map[int]*big.Int{}, map[int]bool{}} }

// behind is units behind that.
func (x taking) behind(p api.Promo, units []api.Unit) ([]api.Unit, int64) {
	l, all := slices.Clone(units), new(big.Int)
	for place, off := range x.off {
		l[place].Net -= off.Int64()
		all.Add(all, off)
	}
	for place := range x.closed {
		if p.Closes {
			l[place].Open = false
		}
	}
	if all.Sign() == 0 {
		return slices.Clone(units), 0
	}
	return l, all.Int64()
}

// buyGet takes row after row from the front of those that are left.
func buyGet(p api.Promo, units []api.Unit, mine []int) ([]api.Unit, int64) {
	if !promo.Right(p) || p.Kind != 3 || !cut.May(units, mine) {
		return slices.Clone(units), 0
	}
	x, left := newTaking(), ranked(units, mine)
	for len(left) >= p.Buy+p.Get {
		for i := range p.Buy + p.Get {
			x.closed[left[i]] = true
			if i > p.Buy-1 {
				x.off[left[i]] = rated(num(units[left[i]].Net), p.Rate)
			}
		}
		left = left[p.Buy+p.Get:]
	}
	return x.behind(p, units)
}

// shares is total by the Nets of those units: who gets one more is the first of those that a stable sort lays in front.
func shares(total *big.Int, units []api.Unit, of []int) []*big.Int {
	sum, left := new(big.Int), new(big.Int).Set(total)
	for _, place := range of {
		sum.Add(sum, num(units[place].Net))
	}
	out, remainders := make([]*big.Int, len(of)), make([]*big.Int, len(of))
	for i, place := range of {
		out[i], remainders[i] = new(big.Int), new(big.Int)
		out[i].QuoRem(new(big.Int).Mul(total, num(units[place].Net)), sum, remainders[i])
		left.Sub(left, out[i])
	}
	order := places(len(of))
	slices.SortStableFunc(order, func(a, b int) int { return remainders[b].Cmp(remainders[a]) })
	for _, i := range order[:left.Int64()] {
		out[i].Add(out[i], num(1))
	}
	return out
}

// one is one more bundle, of what no bundle has yet; false, if a part has not so many. It looks through all of each part for each of its units.
func one(p api.Promo, units []api.Unit, parts [][]int, taken map[int]bool) ([]int, bool) {
	var l []int
	for i, part := range p.Parts {
		for range part.Count {
			var free []int
			for _, place := range parts[i] {
				if !taken[place] && !slices.Contains(l, place) {
					free = append(free, place)
				}
			}
			if len(free) == 0 {
				return nil, false
			}
			l = append(l, ranked(units, free)[0])
		}
	}
	slices.Sort(l)
	return l, true
}

func bundle(p api.Promo, units []api.Unit, parts [][]int) ([]api.Unit, int64) {
	as := slices.Clone(units)
	if !promo.Right(p) || p.Kind != 4 || len(parts) != len(p.Parts) {
		return as, 0
	}
	for _, mine := range parts {
		if !cut.May(units, mine) {
			return as, 0
		}
	}
	x := newTaking()
	for {
		l, is := one(p, units, parts, x.closed)
		above := num(-p.Amount)
		for _, place := range l {
			above.Add(above, num(units[place].Net))
		}
		if !is || above.Sign() <= 0 {
			return x.behind(p, units)
		}
		for i, off := range shares(above, units, l) {
			x.off[l[i]] = off
			x.closed[l[i]] = true
		}
	}
}

// What the tests are made of.

func get(buy, get int, rate int64) api.Promo {
	return api.Promo{Id: "g", Kind: api.BuyGet, Buy: buy, Get: get, Rate: rate}
}

// together is a Bundle for amount, of one part a count.
func together(amount int64, counts ...int) api.Promo {
	p := api.Promo{Id: "b", Kind: api.Bundle, Amount: amount}
	for _, n := range counts {
		p.Parts = append(p.Parts, api.Part{Count: n})
	}
	return p
}

// closing is p that Closes.
func closing(p api.Promo) api.Promo {
	p.Closes = true
	return p
}

// open is units of those Nets, all of them Open, each of a line of its own.
func open(nets ...int64) []api.Unit {
	l := make([]api.Unit, 0, len(nets))
	for i, net := range nets {
		l = append(l, api.Unit{Line: i, Net: net, Open: true})
	}
	return l
}

// shut is l, of which those places are Open no more.
func shut(l []api.Unit, places ...int) []api.Unit {
	l = slices.Clone(l)
	for _, place := range places {
		l[place].Open = false
	}
	return l
}

// alike is n units of one Net.
func alike(n int, net int64) []api.Unit {
	return slices.Repeat([]api.Unit{{Line: 1, Net: net, Open: true}}, n)
}

// lists calls f with each list of up to n of those things, a new one each time.
func lists[T any](n int, things []T, f func([]T)) {
	var longer func(l []T)
	longer = func(l []T) {
		f(slices.Clone(l))
		if len(l) == n {
			return
		}
		for _, x := range things {
			longer(append(l, x))
		}
	}
	longer(make([]T, 0, n))
}

// some is all lists of rising places below n.
func some(n int) [][]int {
	var all [][]int
	for bits := range 1 << n {
		var l []int
		for place := range n {
			if bits>>place&1 == 1 {
				l = append(l, place)
			}
		}
		all = append(all, l)
	}
	return all
}

// told is a thing as one line. Of a long one its beginning is enough.
func told(x any) string {
	s := fmt.Sprintf("%+v", x)
	return s[:min(len(s), 400)]
}

// copied is p in memory of its own.
func copied(p api.Promo) api.Promo {
	p.Scope = copiedScope(p.Scope)
	p.Parts, p.Tiers = slices.Clone(p.Parts), slices.Clone(p.Tiers)
	for i := range p.Parts {
		p.Parts[i].Scope = copiedScope(p.Parts[i].Scope)
	}
	return p
}

func copiedScope(s api.Scope) api.Scope {
	return api.Scope{Skus: slices.Clone(s.Skus), Categories: slices.Clone(s.Categories)}
}

// copiedParts is parts in memory of their own.
func copiedParts(parts [][]int) [][]int {
	parts = slices.Clone(parts)
	for i := range parts {
		parts[i] = slices.Clone(parts[i])
	}
	return parts
}

// holdsBuyGet holds BuyGet against its words, and what is handed in against what it was.
func holdsBuyGet(t *testing.T, p api.Promo, units []api.Unit, mine []int) {
	t.Helper()
	promoWas, unitsWere, mineWere := copied(p), slices.Clone(units), slices.Clone(mine)
	got, off := deal.BuyGet(p, units, mine)
	want, wantOff := buyGet(promoWas, unitsWere, mineWere)
	if !slices.Equal(got, want) || off != wantOff {
		t.Fatalf("BuyGet(%s, %s, %s): %s, %d; want %s, %d", told(promoWas), told(unitsWere), told(mineWere), told(got), off, told(want), wantOff)
	}
	if !reflect.DeepEqual(p, promoWas) || !slices.Equal(units, unitsWere) || !slices.Equal(mine, mineWere) {
		t.Fatalf("of %s, %s and %s was made %s, %s and %s", told(promoWas), told(unitsWere), told(mineWere), told(p), told(units), told(mine))
	}
}

// holdsBundle does so with Bundle.
func holdsBundle(t *testing.T, p api.Promo, units []api.Unit, parts [][]int) {
	t.Helper()
	promoWas, unitsWere, partsWere := copied(p), slices.Clone(units), copiedParts(parts)
	got, off := deal.Bundle(p, units, parts)
	want, wantOff := bundle(promoWas, unitsWere, partsWere)
	if !slices.Equal(got, want) || off != wantOff {
		t.Fatalf("Bundle(%s, %s, %s): %s, %d; want %s, %d", told(promoWas), told(unitsWere), told(partsWere), told(got), off, told(want), wantOff)
	}
	if !reflect.DeepEqual(p, promoWas) || !slices.Equal(units, unitsWere) || !reflect.DeepEqual(parts, partsWere) {
		t.Fatalf("of %s, %s and %s was made %s, %s and %s", told(promoWas), told(unitsWere), told(partsWere), told(p), told(units), told(parts))
	}
}

// far is numbers that an int64 and an int hold, also where one of fewer bits would take them for little ones.
var far = []int64{math.MinInt64, math.MinInt64 + 1, -1 << 32, -1<<32 + 1, math.MinInt32, -2, -1, 1 << 32, 1<<32 + 1, 1 << 48, 1<<62 + 1, math.MaxInt64 - 1, math.MaxInt64}

// P16.1: BuyGet

// row is what is asked of BuyGet: nets are what units cost that are all Open, want what they cost behind, and closed which are Open no more where the promo Closes.
type row struct {
	p      api.Promo
	nets   []int64
	mine   []int
	want   []int64
	closed []int
}

// asksBuyGet asks it of each of them, with a promo that Closes and one that doesn't.
func asksBuyGet(t *testing.T, l map[string]row) {
	t.Helper()
	for name, x := range l {
		for _, closes := range []bool{false, true} {
			x.p.Closes = closes
			units, want, all := open(x.nets...), open(x.want...), int64(0)
			for i := range units {
				all += units[i].Net - want[i].Net
			}
			if closes {
				want = shut(want, x.closed...)
			}
			if got, off := deal.BuyGet(x.p, units, x.mine); !slices.Equal(got, want) || off != all {
				t.Errorf("%s: BuyGet(%s, %s, %v): %s, %d; want %s, %d", name, told(x.p), told(x.nets), x.mine, told(got), off, told(want), all)
			}
			holdsBuyGet(t, x.p, units, x.mine)
		}
	}
}

func TestRows(t *testing.T) {
	asksBuyGet(t, map[string]row{
		"no units":                     {get(1, 1, 10_000), nil, nil, nil, nil},
		"no places":                    {get(1, 1, 10_000), []int64{5, 9}, nil, []int64{5, 9}, nil},
		"the example":                  {get(1, 1, 10_000), []int64{5, 9, 7}, []int{0, 1, 2}, []int64{5, 9, 0}, []int{1, 2}},
		"fewer than one row":           {get(1, 1, 10_000), []int64{5, 9}, []int{1}, []int64{5, 9}, nil},
		"one fewer than a row of 3":    {get(2, 1, 10_000), []int64{5, 9, 7}, []int{0, 2}, []int64{5, 9, 7}, nil},
		"as many as Buy":               {get(3, 1, 10_000), []int64{5, 9, 7}, []int{0, 1, 2}, []int64{5, 9, 7}, nil},
		"as many as Get":               {get(1, 3, 10_000), []int64{5, 9, 7}, []int{0, 1, 2}, []int64{5, 9, 7}, nil},
		"just one row":                 {get(2, 1, 10_000), []int64{5, 9, 7}, []int{0, 1, 2}, []int64{0, 9, 7}, []int{0, 1, 2}},
		"one more":                     {get(2, 1, 10_000), []int64{6, 5, 9, 7}, []int{0, 1, 2, 3}, []int64{0, 5, 9, 7}, []int{0, 2, 3}},
		"one fewer than two rows":      {get(2, 1, 10_000), []int64{6, 5, 9, 7, 1}, []int{0, 1, 2, 3, 4}, []int64{0, 5, 9, 7, 1}, []int{0, 2, 3}},
		"two rows":                     {get(2, 1, 10_000), []int64{6, 5, 9, 7, 1, 3}, []int{0, 1, 2, 3, 4, 5}, []int64{0, 5, 9, 7, 0, 3}, []int{0, 1, 2, 3, 4, 5}},
		"many rows, one left over":     {get(1, 1, 10_000), []int64{1, 2, 3, 4, 5, 6, 7, 8, 9}, []int{0, 1, 2, 3, 4, 5, 6, 7, 8}, []int64{1, 0, 3, 0, 5, 0, 7, 0, 9}, []int{1, 2, 3, 4, 5, 6, 7, 8}},
		"many rows, three left over":   {get(1, 3, 10_000), []int64{1, 2, 3, 4, 5, 6, 7, 8, 9, 10, 11}, []int{0, 1, 2, 3, 4, 5, 6, 7, 8, 9, 10}, []int64{1, 2, 3, 0, 0, 0, 7, 0, 0, 0, 11}, []int{3, 4, 5, 6, 7, 8, 9, 10}},
		"more are free than bought":    {get(1, 2, 10_000), []int64{1, 2, 3, 4}, []int{0, 1, 2, 3}, []int64{1, 0, 0, 4}, []int{1, 2, 3}},
		"more are bought than free":    {get(3, 2, 10_000), []int64{1, 2, 3, 4, 5}, []int{0, 1, 2, 3, 4}, []int64{0, 0, 3, 4, 5}, []int{0, 1, 2, 3, 4}},
		"falling":                      {get(1, 1, 10_000), []int64{9, 7, 5, 3}, []int{0, 1, 2, 3}, []int64{9, 0, 5, 0}, []int{0, 1, 2, 3}},
		"what is not mine":             {get(1, 1, 10_000), []int64{5, 9, 7, 8}, []int{0, 2}, []int64{0, 9, 7, 8}, []int{0, 2}},
		"what is not mine, two rows":   {get(1, 1, 10_000), []int64{9, 9, 5, 4, 9, 7, 8, 2}, []int{2, 3, 5, 7}, []int64{9, 9, 0, 4, 9, 7, 8, 0}, []int{2, 3, 5, 7}},
		"one Net":                      {get(1, 1, 10_000), []int64{5, 5, 5, 5}, []int{0, 1, 2, 3}, []int64{5, 0, 5, 0}, []int{0, 1, 2, 3}},
		"one Net, one left over":       {get(1, 1, 10_000), []int64{5, 5, 5}, []int{0, 1, 2}, []int64{5, 0, 5}, []int{0, 1}},
		"one Net, rows of three":       {get(1, 2, 10_000), []int64{5, 5, 5, 5}, []int{0, 1, 2, 3}, []int64{5, 0, 0, 5}, []int{0, 1, 2}},
		"one Net at the edge of a row": {get(1, 1, 10_000), []int64{3, 7, 7, 7}, []int{0, 1, 2, 3}, []int64{0, 7, 0, 7}, []int{0, 1, 2, 3}},
		"one Net, of later places":     {get(1, 1, 10_000), []int64{9, 5, 9, 5, 5}, []int{1, 3, 4}, []int64{9, 5, 9, 0, 5}, []int{1, 3}},
		"of one Net, a dearer behind":  {get(2, 1, 10_000), []int64{5, 5, 6}, []int{0, 1, 2}, []int64{5, 0, 6}, []int{0, 1, 2}},
		"a half is the greater":        {get(1, 3, 5_000), []int64{9, 5, 3, 1}, []int{0, 1, 2, 3}, []int64{9, 2, 1, 0}, []int{0, 1, 2, 3}},
		"a half of 2,500":              {get(1, 3, 2_500), []int64{11, 10, 6, 2}, []int{0, 1, 2, 3}, []int64{11, 7, 4, 1}, []int{0, 1, 2, 3}},
		"just below a half":            {get(1, 1, 4_999), []int64{10_000, 1}, []int{0, 1}, []int64{10_000, 1}, nil},
		"just above a half":            {get(1, 1, 5_001), []int64{10_000, 1}, []int{0, 1}, []int64{10_000, 0}, []int{0, 1}},
		"each is rounded for itself":   {get(1, 2, 1_000), []int64{5, 5, 5}, []int{0, 1, 2}, []int64{5, 4, 4}, []int{0, 1, 2}},
		"each, below a half":           {get(1, 3, 1_000), []int64{4, 4, 4, 4}, []int{0, 1, 2, 3}, []int64{4, 4, 4, 4}, nil},
		"a Net of 0 in a row":          {get(1, 2, 5_000), []int64{10, 0, 8}, []int{0, 1, 2}, []int64{10, 0, 4}, []int{0, 1, 2}},
		"Nets of 0 in a row behind":    {get(1, 1, 5_000), []int64{0, 10, 0, 8}, []int{0, 1, 2, 3}, []int64{0, 10, 0, 4}, []int{0, 1, 2, 3}},
		"Nets of 0 left over":          {get(1, 1, 5_000), []int64{0, 10, 8}, []int{0, 1, 2}, []int64{0, 10, 4}, []int{1, 2}},
		"Nets of 0 alone are free":     {get(2, 2, 10_000), []int64{9, 0, 8, 0}, []int{0, 1, 2, 3}, []int64{9, 0, 8, 0}, nil},
		"all of them 0":                {get(1, 1, 10_000), []int64{0, 0, 7}, []int{0, 1}, []int64{0, 0, 7}, nil},
		"so little that it is nothing": {get(1, 1, 1), []int64{5_000, 4_999, 4_999, 4_998}, []int{0, 1, 2, 3}, []int64{5_000, 4_999, 4_999, 4_998}, nil},
		"so little that it is just 1":  {get(1, 1, 1), []int64{5_000, 5_000, 3, 2}, []int{0, 1, 2, 3}, []int64{5_000, 4_999, 3, 2}, []int{0, 1, 2, 3}},
		"a row of which nothing comes": {get(1, 1, 1_000), []int64{4, 50, 4, 40}, []int{0, 1, 2, 3}, []int64{4, 50, 4, 36}, []int{0, 1, 2, 3}},
		"a great Net":                  {get(1, 1, 9_999), []int64{api.MaxGross / 2, api.MaxGross / 2}, []int{0, 1}, []int64{api.MaxGross / 2, api.MaxGross / 20_000}, []int{0, 1}},
		"a great Net, the whole":       {get(1, 1, 10_000), []int64{api.MaxGross / 2, api.MaxGross / 2}, []int{0, 1}, []int64{api.MaxGross / 2, 0}, []int{0, 1}},
		"a great Net, and nothing":     {get(1, 1, 10_000), []int64{0, api.MaxGross}, []int{0, 1}, []int64{0, api.MaxGross}, nil},
	})
}

// Rows of as many as Buy and Get may be, of which one is there, or one unit fewer, or one more.
func TestTheLongestRow(t *testing.T) {
	for _, n := range []int{199, 200, 201, 399, 400, 401} {
		var nets []int64
		for i := range n {
			nets = append(nets, int64(1+i%7))
		}
		units := open(nets...)
		for _, p := range []api.Promo{get(100, 100, 10_000), closing(get(100, 100, 3_333)), get(1, 100, 5_000), closing(get(100, 1, 5_000))} {
			holdsBuyGet(t, p, units, places(n))
		}
		_, off := deal.BuyGet(get(100, 100, 10_000), units, places(n))
		if (off > 0) != (n > 199) {
			t.Errorf("BuyGet takes %d off of %d units", off, n)
		}
	}
}

// Of which line a unit is plays no part: it stays that, also where it is no place of any line.
func TestLinesPlayNoPart(t *testing.T) {
	for _, x := range far {
		units := open(60, 50)
		units[0].Line, units[1].Line = int(x), 7
		want := []api.Unit{{Line: int(x), Net: 60, Open: true}, {Line: 7, Net: 0, Open: true}}
		if got, off := deal.BuyGet(get(1, 1, 10_000), units, []int{0, 1}); !slices.Equal(got, want) || off != 50 {
			t.Errorf("BuyGet of a unit of the line %d: %s, %d", x, told(got), off)
		}
		want = []api.Unit{{Line: int(x), Net: 6}, {Line: 7, Net: 5}}
		if got, off := deal.Bundle(closing(together(11, 1, 1)), units, [][]int{{0}, {1}}); !slices.Equal(got, want) || off != 99 {
			t.Errorf("Bundle of a unit of the line %d: %s, %d", x, told(got), off)
		}
	}
}

// P16.2: Bundle

// made is what is asked of Bundle: nets are what units cost that are all Open, want what they cost behind, and closed which are Open no more where the promo Closes.
type made struct {
	p      api.Promo
	nets   []int64
	parts  [][]int
	want   []int64
	closed []int
}

// asksBundle asks it of each of them, with a promo that Closes and one that doesn't.
func asksBundle(t *testing.T, l map[string]made) {
	t.Helper()
	for name, x := range l {
		for _, closes := range []bool{false, true} {
			x.p.Closes = closes
			units, want, all := open(x.nets...), open(x.want...), int64(0)
			for i := range units {
				all += units[i].Net - want[i].Net
			}
			if closes {
				want = shut(want, x.closed...)
			}
			if got, off := deal.Bundle(x.p, units, x.parts); !slices.Equal(got, want) || off != all {
				t.Errorf("%s: Bundle(%s, %s, %v): %s, %d; want %s, %d", name, told(x.p), told(x.nets), x.parts, told(got), off, told(want), all)
			}
			holdsBundle(t, x.p, units, x.parts)
		}
	}
}

func TestWhichUnitsABundleHas(t *testing.T) {
	asksBundle(t, map[string]made{
		"no units":                           {together(0, 1), nil, [][]int{nil}, nil, nil},
		"no places":                          {together(0, 1), []int64{5, 9}, [][]int{nil}, []int64{5, 9}, nil},
		"no places of the first":             {together(0, 1, 1), []int64{5, 9}, [][]int{nil, {0, 1}}, []int64{5, 9}, nil},
		"no places of the last":              {together(0, 1, 1), []int64{5, 9}, [][]int{{0, 1}, {}}, []int64{5, 9}, nil},
		"the example":                        {together(10, 1, 1), []int64{8, 6}, [][]int{{0}, {1}}, []int64{6, 4}, []int{0, 1}},
		"the example, turned":                {together(10, 1, 1), []int64{6, 8}, [][]int{{1}, {0}}, []int64{4, 6}, []int{0, 1}},
		"one part of one":                    {together(7, 1), []int64{3, 9, 6}, [][]int{{0, 1, 2}}, []int64{3, 7, 6}, []int{1}},
		"just its Count":                     {together(0, 2), []int64{4, 9, 6}, [][]int{{0, 2}}, []int64{0, 9, 0}, []int{0, 2}},
		"one fewer":                          {together(0, 3), []int64{4, 9, 6}, [][]int{{0, 2}}, []int64{4, 9, 6}, nil},
		"one more":                           {together(0, 2), []int64{4, 9, 6, 5}, [][]int{{0, 2, 3}}, []int64{4, 9, 0, 0}, []int{2, 3}},
		"one fewer of the last part":         {together(0, 1, 2), []int64{4, 9, 6}, [][]int{{0, 1}, {2}}, []int64{4, 9, 6}, nil},
		"the dearest of each":                {together(1, 1, 1), []int64{4, 9, 6, 5}, [][]int{{0, 1}, {2, 3}}, []int64{0, 1, 0, 1}, []int{0, 1, 2, 3}},
		"the dearest of each alone":          {together(10, 1, 1), []int64{4, 9, 6, 5}, [][]int{{0, 1}, {2, 3}}, []int64{4, 6, 4, 5}, []int{1, 2}},
		"of one Net the first":               {together(3, 1), []int64{3, 4, 4}, [][]int{{0, 1, 2}}, []int64{3, 3, 3}, []int{1, 2}},
		"of one Net the first, of two":       {together(7, 2), []int64{3, 4, 4, 4}, [][]int{{0, 1, 2, 3}}, []int64{3, 3, 4, 4}, []int{1, 2}},
		"of one Net the first mine":          {together(7, 2), []int64{4, 4, 4, 4}, [][]int{{1, 3}}, []int64{4, 3, 4, 4}, []int{1, 3}},
		"a part ahead has it":                {together(10, 1, 1), []int64{9, 8, 7}, [][]int{{0, 1}, {0, 1, 2}}, []int64{5, 5, 7}, []int{0, 1}},
		"a part ahead has it, turned":        {together(10, 1, 1), []int64{7, 8, 9}, [][]int{{1, 2}, {0, 1, 2}}, []int64{7, 5, 5}, []int{1, 2}},
		"a part ahead has it, and no other":  {together(0, 1, 1), []int64{9, 8}, [][]int{{0, 1}, {0}}, []int64{9, 8}, nil},
		"the first part takes the only one":  {together(0, 1, 1), []int64{9}, [][]int{{0}, {0}}, []int64{9}, nil},
		"the last part would leave it":       {together(10, 1, 1), []int64{9, 8}, [][]int{{0, 1}, {1}}, []int64{5, 5}, []int{0, 1}},
		"no part gives way":                  {together(0, 1, 1), []int64{9, 8}, [][]int{{0, 1}, {0}}, []int64{9, 8}, nil},
		"three parts of the same":            {together(0, 1, 1, 1), []int64{9, 8, 7, 6}, [][]int{{0, 1, 2, 3}, {0, 1, 2, 3}, {0, 1, 2, 3}}, []int64{0, 0, 0, 6}, []int{0, 1, 2}},
		"three parts, one too few":           {together(0, 1, 1, 1), []int64{9, 8}, [][]int{{0, 1}, {0, 1}, {0, 1}}, []int64{9, 8}, nil},
		"Counts above 1 that share":          {together(20, 2, 1), []int64{10, 9, 8, 7, 6}, [][]int{{0, 1, 2, 3, 4}, {1, 2, 3, 4}}, []int64{7, 7, 6, 7, 6}, []int{0, 1, 2}},
		"Counts above 1, the last one fewer": {together(0, 2, 2), []int64{9, 8, 7}, [][]int{{0, 1, 2}, {0, 1, 2}}, []int64{9, 8, 7}, nil},
		"Counts above 1, just enough":        {together(0, 2, 2), []int64{9, 8, 7, 6}, [][]int{{0, 1, 2, 3}, {0, 1, 2, 3}}, []int64{0, 0, 0, 0}, []int{0, 1, 2, 3}},
		"a bundle ahead has it":              {together(5, 1, 1), []int64{4, 6, 3, 5}, [][]int{{0, 1, 2, 3}, {0, 1, 2, 3}}, []int64{3, 3, 2, 2}, []int{0, 1, 2, 3}},
		"a bundle ahead has what one needs":  {together(5, 1, 1), []int64{9, 8, 7}, [][]int{{0, 1, 2}, {0, 1, 2}}, []int64{3, 2, 7}, []int{0, 1}},
		"the last part of a bundle ahead":    {together(3, 1, 1), []int64{5, 9, 4, 3}, [][]int{{0, 1, 2}, {0, 3}}, []int64{1, 2, 2, 1}, []int{0, 1, 2, 3}},
		"what no part has":                   {together(0, 1), []int64{9, 8, 7}, [][]int{{1}}, []int64{9, 0, 7}, []int{1}},
		"what is dearer, and no part has":    {together(5, 1, 1), []int64{90, 3, 80, 4, 70}, [][]int{{1}, {3}}, []int64{90, 2, 80, 3, 70}, []int{1, 3}},
		"two bundles of two parts":           {together(10, 1, 1), []int64{8, 6, 9, 7}, [][]int{{0, 2}, {1, 3}}, []int64{6, 4, 6, 4}, []int{0, 1, 2, 3}},
		"three bundles, one left over":       {together(1, 2), []int64{7, 6, 5, 4, 3, 2, 1}, [][]int{{0, 1, 2, 3, 4, 5, 6}}, []int64{1, 0, 1, 0, 1, 0, 1}, []int{0, 1, 2, 3, 4, 5}},
		"as many as the lesser part has":     {together(1, 1, 1), []int64{9, 8, 7, 6, 5}, [][]int{{0, 1, 2}, {3, 4}}, []int64{1, 1, 7, 0, 0}, []int{0, 1, 3, 4}},
		"one Net, two bundles":               {together(9, 2), []int64{5, 5, 5, 5, 5}, [][]int{{0, 1, 2, 3, 4}}, []int64{4, 5, 4, 5, 5}, []int{0, 1, 2, 3}},
	})
}

func TestWhatABundleCosts(t *testing.T) {
	const most = api.MaxGross
	asksBundle(t, map[string]made{
		"just Amount":                       {together(14, 1, 1), []int64{8, 6}, [][]int{{0}, {1}}, []int64{8, 6}, nil},
		"one above Amount":                  {together(13, 1, 1), []int64{8, 6}, [][]int{{0}, {1}}, []int64{7, 6}, []int{0, 1}},
		"one below Amount":                  {together(15, 1, 1), []int64{8, 6}, [][]int{{0}, {1}}, []int64{8, 6}, nil},
		"far below Amount":                  {together(most, 1, 1), []int64{8, 6}, [][]int{{0}, {1}}, []int64{8, 6}, nil},
		"the second is just Amount":         {together(7, 1), []int64{7, 9, 7}, [][]int{{0, 1, 2}}, []int64{7, 7, 7}, []int{1}},
		"the second is one above":           {together(7, 1), []int64{8, 9, 7}, [][]int{{0, 1, 2}}, []int64{7, 7, 7}, []int{0, 1}},
		"the second is one below":           {together(7, 1), []int64{6, 9, 6}, [][]int{{0, 1, 2}}, []int64{6, 7, 6}, []int{1}},
		"the third ends it":                 {together(10, 1, 1), []int64{9, 9, 8, 8, 5, 5, 5, 5}, [][]int{{0, 2, 4, 6}, {1, 3, 5, 7}}, []int64{5, 5, 5, 5, 5, 5, 5, 5}, []int{0, 1, 2, 3}},
		"an Amount of 0":                    {together(0, 1), []int64{3, 0, 4}, [][]int{{0, 1, 2}}, []int64{0, 0, 0}, []int{0, 2}},
		"an Amount of 0, and Nets of 0":     {together(0, 1), []int64{0, 0}, [][]int{{0, 1}}, []int64{0, 0}, nil},
		"an Amount of 0, one Net of 0":      {together(0, 2), []int64{0, 3, 0}, [][]int{{0, 1, 2}}, []int64{0, 0, 0}, []int{0, 1}},
		"an Amount of 1, and Nets of 0":     {together(1, 1, 1), []int64{0, 0}, [][]int{{0}, {1}}, []int64{0, 0}, nil},
		"a Net of 0 in a bundle":            {together(4, 1, 1, 1), []int64{5, 0, 5}, [][]int{{0}, {1}, {2}}, []int64{2, 0, 2}, []int{0, 1, 2}},
		"a Net of 0 in each of two":         {together(3, 1, 1), []int64{0, 5, 0, 9}, [][]int{{0, 2}, {1, 3}}, []int64{0, 3, 0, 3}, []int{0, 1, 2, 3}},
		"remainders that are alike":         {together(13, 3), []int64{5, 5, 5}, [][]int{{0, 1, 2}}, []int64{4, 4, 5}, []int{0, 1, 2}},
		"alike, of falling parts":           {together(9, 1, 1), []int64{5, 5}, [][]int{{1}, {0}}, []int64{4, 5}, []int{0, 1}},
		"alike, of three parts":             {together(13, 1, 1, 1), []int64{5, 5, 5}, [][]int{{2}, {0}, {1}}, []int64{4, 4, 5}, []int{0, 1, 2}},
		"alike, of three parts, one off":    {together(14, 1, 1, 1), []int64{5, 5, 5}, [][]int{{1}, {2}, {0}}, []int64{4, 5, 5}, []int{0, 1, 2}},
		"alike, of Nets that are not":       {together(9, 2, 1), []int64{4, 4, 4}, [][]int{{1, 2}, {0}}, []int64{3, 3, 3}, []int{0, 1, 2}},
		"alike, of Nets 1 and 2 and 1":      {together(2, 1, 2), []int64{1, 2, 1}, [][]int{{1}, {0, 2}}, []int64{0, 1, 1}, []int{0, 1, 2}},
		"alike, in each of two bundles":     {together(9, 1, 1), []int64{5, 5, 5, 5}, [][]int{{2, 3}, {0, 1}}, []int64{4, 4, 5, 5}, []int{0, 1, 2, 3}},
		"the lesser Net has the remainder":  {together(10, 3), []int64{6, 6, 3}, [][]int{{0, 1, 2}}, []int64{4, 4, 2}, []int{0, 1, 2}},
		"the least Net gets one more":       {together(65, 3), []int64{30, 30, 10}, [][]int{{0, 1, 2}}, []int64{28, 28, 9}, []int{0, 1, 2}},
		"by what they cost, not how many":   {together(11, 1, 1), []int64{90, 20}, [][]int{{0}, {1}}, []int64{9, 2}, []int{0, 1}},
		"each bundle by itself":             {together(10, 1, 1), []int64{90, 10, 9, 3}, [][]int{{0, 2}, {1, 3}}, []int64{9, 1, 7, 3}, []int{0, 1, 2, 3}},
		"MaxGross for nothing":              {together(0, 1, 1), []int64{most - 1, 1}, [][]int{{0}, {1}}, []int64{0, 0}, []int{0, 1}},
		"MaxGross for MaxGross":             {together(most, 1, 1), []int64{most - 1, 1}, [][]int{{0}, {1}}, []int64{most - 1, 1}, nil},
		"MaxGross for one less":             {together(most-1, 1, 1), []int64{most - 1, 1}, [][]int{{0}, {1}}, []int64{most - 2, 1}, []int{0, 1}},
		"MaxGross for 1":                    {together(1, 1, 1), []int64{most / 2, most / 2}, [][]int{{0}, {1}}, []int64{0, 1}, []int{0, 1}},
		"a quarter, a quarter, and a half":  {together(most/2+1, 1, 1, 1), []int64{most / 4, most / 4, most / 2}, [][]int{{2}, {1}, {0}}, []int64{most / 8, most / 8, most/4 + 1}, []int{0, 1, 2}},
		"the least of what is off one unit": {together(4_999, 1), []int64{5_000}, [][]int{{0}}, []int64{4_999}, []int{0}},
	})
}

// The making ends with the first bundle that is not above Amount: none of those behind it is made, and its units are as they were, Open ones.
func TestTheFirstThatIsNotAboveAmountEndsIt(t *testing.T) {
	var nets []int64
	for i := range int64(40) {
		nets = append(nets, 40-i)
	}
	for amount := range int64(90) {
		p, units, want := closing(together(amount, 1, 1)), open(nets...), open(nets...)
		all := int64(0)
		for i := 0; i < 40; i += 2 {
			if nets[i]+nets[i+1] <= amount {
				break
			}
			all += nets[i] + nets[i+1] - amount
			want[i].Open, want[i+1].Open = false, false
		}
		got, off := deal.Bundle(p, units, [][]int{places(40), places(40)})
		for i := range want {
			if got[i].Open != want[i].Open || got[i].Open && got[i] != units[i] {
				t.Fatalf("for %d: the unit %d: %+v", amount, i, got[i])
			}
		}
		if off != all {
			t.Fatalf("for %d: %d, want %d", amount, off, all)
		}
		holdsBundle(t, p, units, [][]int{places(40), places(40)})
	}
}

// Parts of as many as a Count may be, of which just so many are there, or one unit fewer, or one more.
func TestTheLongestBundle(t *testing.T) {
	for _, n := range []int{299, 300, 301, 600} {
		var nets []int64
		for i := range n {
			nets = append(nets, int64(1+i%7))
		}
		units := open(nets...)
		for _, amount := range []int64{0, 1_000} {
			for _, p := range []api.Promo{together(amount, 100, 100, 100), closing(together(amount, 1, 100, 99))} {
				holdsBundle(t, p, units, [][]int{places(n), places(n), places(n)})
				holdsBundle(t, p, units, [][]int{places(100), places(n), places(n)})
			}
		}
		_, off := deal.Bundle(together(0, 100, 100, 100), units, [][]int{places(n), places(n), places(n)})
		if (off > 0) != (n > 299) {
			t.Errorf("Bundle takes %d off of %d units", off, n)
		}
	}
}

// More parts, or fewer, than the promo has.
func TestAnotherNumberOfParts(t *testing.T) {
	units := open(60, 50, 40, 30)
	for n := range 7 {
		for counts := range 3 {
			p := together(1, slices.Repeat([]int{1}, counts+1)...)
			for _, mine := range [][]int{nil, {0}, places(4)} {
				for _, p := range []api.Promo{p, closing(p)} {
					parts := slices.Repeat([][]int{mine}, n)
					holdsBundle(t, p, units, parts)
					got, off := deal.Bundle(p, units, parts)
					if n != counts+1 && (off != 0 || !slices.Equal(got, units)) {
						t.Errorf("Bundle(%s) of %d parts: %s, %d", told(p), n, told(got), off)
					}
					if n == counts+1 && len(mine) == 4 && off == 0 {
						t.Errorf("Bundle(%s) of %d parts takes nothing off", told(p), n)
					}
				}
			}
		}
	}
	for _, parts := range [][][]int{nil, {}, {{0}, nil}, {{0}, {}}, {nil, {0}}} { // no list and an empty one are parts like others
		if got, off := deal.Bundle(together(1, 1), units, parts); off != 0 || !slices.Equal(got, units) {
			t.Errorf("Bundle of the parts %v: %s, %d", parts, told(got), off)
		}
	}
}

// Both

// A promo that takes nothing off turns nothing, also where it Closes.
func TestNothingTakenOffClosesNothing(t *testing.T) {
	for name, units := range map[string][]api.Unit{"no units": nil, "of 0": open(0, 0, 0), "of 0, and one that is shut": shut(open(0, 0, 9), 2)} {
		mine := places(min(2, len(units)))
		for _, p := range []api.Promo{get(1, 1, 10_000), get(1, 1, 1), get(2, 5, 10_000)} {
			if got, off := deal.BuyGet(closing(p), units, mine); off != 0 || !slices.Equal(got, units) {
				t.Errorf("%s: BuyGet(%s): %s, %d", name, told(p), told(got), off)
			}
		}
		for _, p := range []api.Promo{together(0, 1, 1), together(5, 1, 1), together(0, 3, 1), together(0, 1, 3)} {
			for _, parts := range [][][]int{{mine, mine}, {mine, nil}, {nil, mine}, {nil, nil}} {
				if got, off := deal.Bundle(closing(p), units, parts); off != 0 || !slices.Equal(got, units) {
					t.Errorf("%s: Bundle(%s, %v): %s, %d", name, told(p), parts, told(got), off)
				}
			}
		}
	}
}

// wrongs is what makes any promo of the two Kinds wrong.
func wrongs() map[string]func(p *api.Promo) {
	return map[string]func(p *api.Promo){
		"no Id":                   func(p *api.Promo) { p.Id = "" },
		"an Id that is no name":   func(p *api.Promo) { p.Id = "A" },
		"a Group that is no name": func(p *api.Promo) { p.Group = "G" },
		"a Code that is no name":  func(p *api.Promo) { p.Code = "a b" },
		"a Priority below 0":      func(p *api.Promo) { p.Priority = -1 },
		"a Priority above":        func(p *api.Promo) { p.Priority = 1_001 },
		"a Least below 0":         func(p *api.Promo) { p.Least = -1 },
		"a Least above":           func(p *api.Promo) { p.Least = api.MaxGross + 1 },
		"a Scope that falls":      func(p *api.Promo) { p.Scope.Skus = []string{"b", "a"} },
		"a Scope of no name":      func(p *api.Promo) { p.Scope.Categories = []string{""} },
		"a Rate below 0":          func(p *api.Promo) { p.Rate = -1 },
		"a Rate above":            func(p *api.Promo) { p.Rate = api.MaxRate + 1 },
		"the greatest Rate":       func(p *api.Promo) { p.Rate = math.MaxInt64 },
		"an Amount below 0":       func(p *api.Promo) { p.Amount = -1 },
		"an Amount above":         func(p *api.Promo) { p.Amount = api.MaxGross + 1 },
		"the least Amount":        func(p *api.Promo) { p.Amount = math.MinInt64 },
		"a Buy below 0":           func(p *api.Promo) { p.Buy = -1 },
		"a Buy above":             func(p *api.Promo) { p.Buy = 101 },
		"the greatest Buy":        func(p *api.Promo) { p.Buy = math.MaxInt },
		"the greatest of both":    func(p *api.Promo) { p.Buy, p.Get = math.MaxInt, math.MaxInt },
		"both come to 0":          func(p *api.Promo) { p.Buy, p.Get = -1, 1 },
		"a Get below 0":           func(p *api.Promo) { p.Get = -1 },
		"a Get above":             func(p *api.Promo) { p.Get = 101 },
		"the greatest Get":        func(p *api.Promo) { p.Get = math.MaxInt },
		"Buy, Get and Parts":      func(p *api.Promo) { p.Buy, p.Get, p.Rate, p.Parts = 1, 1, 5_000, together(0, 1, 1).Parts },
		"Tiers":                   func(p *api.Promo) { p.Tiers = []api.Tier{{Rate: 1_000}} },
		"a Count of 0":            func(p *api.Promo) { p.Parts = together(0, 1, 0).Parts },
		"a Count below 0":         func(p *api.Promo) { p.Parts = together(0, -1, 1).Parts },
		"a Count above":           func(p *api.Promo) { p.Parts = together(0, 1, 101).Parts },
		"the greatest Count":      func(p *api.Promo) { p.Parts = together(0, math.MaxInt, 1).Parts },
		"the least Count":         func(p *api.Promo) { p.Parts = together(0, 1, math.MinInt).Parts },
		"a part of no Scope": func(p *api.Promo) {
			p.Parts = []api.Part{{Count: 1}, {Count: 1, Scope: api.Scope{Skus: []string{"B"}}}}
		},
	}
}

func TestPromosThatAreNotRight(t *testing.T) {
	units, mine, parts := open(100, 50, 30), []int{0, 1}, [][]int{{0, 1, 2}, {0, 1, 2}}
	for name, turn := range wrongs() {
		for _, p := range []api.Promo{get(1, 1, 10_000), together(5, 1, 1)} {
			turn(&p)
			for _, p := range []api.Promo{p, closing(p)} {
				if promo.Right(p) {
					t.Errorf("%s: %s is right", name, told(p))
				}
				holdsBuyGet(t, p, units, mine)
				holdsBundle(t, p, units, parts)
				if got, off := deal.BuyGet(p, units, mine); off != 0 || !slices.Equal(got, units) {
					t.Errorf("%s: BuyGet(%s): %s, %d", name, told(p), told(got), off)
				}
				if got, off := deal.Bundle(p, units, parts); off != 0 || !slices.Equal(got, units) {
					t.Errorf("%s: Bundle(%s): %s, %d", name, told(p), told(got), off)
				}
			}
		}
	}
	four := slices.Repeat([][]int{{0}}, 4)
	for _, p := range []api.Promo{{}, {Id: "a"}, get(0, 1, 10_000), get(1, 0, 10_000), get(0, 0, 10_000), get(1, 1, 0), together(5), together(0, 1, 1, 1, 1), {Id: "a", Buy: 1, Get: 1, Rate: 1}, {Id: "a", Parts: together(0, 1, 1).Parts}} {
		holdsBuyGet(t, p, units, mine)
		holdsBundle(t, p, units, four[:len(p.Parts)])
		if got, off := deal.BuyGet(p, units, mine); off != 0 || !slices.Equal(got, units) {
			t.Errorf("BuyGet(%s): %s, %d", told(p), told(got), off)
		}
		if got, off := deal.Bundle(p, units, four[:len(p.Parts)]); off != 0 || !slices.Equal(got, units) {
			t.Errorf("Bundle(%s): %s, %d", told(p), told(got), off)
		}
	}
}

func TestOtherKinds(t *testing.T) {
	units, mine := open(100, 50, 30), []int{0, 1}
	for _, p := range []api.Promo{
		{Id: "a", Kind: api.Percent, Rate: 10_000},
		{Id: "a", Kind: api.Amount, Amount: 5, Closes: true},
		{Id: "a", Kind: api.Spend, Tiers: []api.Tier{{Rate: 5_000}}},
		{Id: "a", Kind: api.Count, Tiers: []api.Tier{{Rate: 5_000}}, Closes: true},
		{Id: "a", Kind: api.Shipping, Rate: 10_000},
		get(1, 1, 10_000),
		closing(get(1, 1, 10_000)),
		together(5, 1, 1),
		closing(together(5, 1, 1)),
	} {
		if !promo.Right(p) {
			t.Fatalf("%s is not right", told(p))
		}
		holdsBuyGet(t, p, units, mine)
		if got, off := deal.BuyGet(p, units, mine); p.Kind != api.BuyGet && (off != 0 || !slices.Equal(got, units)) {
			t.Errorf("BuyGet(%s): %s, %d", told(p), told(got), off)
		}
		for _, parts := range [][][]int{nil, {mine}, {mine, mine}, {nil, mine, nil}} {
			holdsBundle(t, p, units, parts)
			if got, off := deal.Bundle(p, units, parts); p.Kind != api.Bundle && (off != 0 || !slices.Equal(got, units)) {
				t.Errorf("Bundle(%s, %v): %s, %d", told(p), parts, told(got), off)
			}
		}
	}
	for _, kind := range append(far, 0, 1, 2, 3, 4, 5, 6, 7, 8, 9, 77) {
		for _, p := range []api.Promo{get(1, 1, 10_000), together(5, 1, 1)} {
			right := int64(p.Kind)
			p.Kind = int(kind)
			holdsBuyGet(t, p, units, mine)
			holdsBundle(t, p, units, [][]int{mine, mine})
			_, got := deal.BuyGet(p, units, mine)
			_, gotBundle := deal.Bundle(p, units, [][]int{mine, mine})
			if (got+gotBundle > 0) != (kind == right) {
				t.Errorf("%s: off %d and %d", told(p), got, gotBundle)
			}
		}
	}
}

// wrongMine is units and places that may not be, each way; all else would take something off.
func wrongMine() map[string]struct {
	units []api.Unit
	mine  []int
} {
	return map[string]struct {
		units []api.Unit
		mine  []int
	}{
		"falling":              {open(100, 50), []int{1, 0}},
		"one twice":            {open(100, 50), []int{0, 0}},
		"one twice at the end": {open(100, 50, 30), []int{0, 1, 1}},
		"one below 0":          {open(100, 50), []int{-1, 0, 1}},
		"one too far":          {open(100, 50), []int{0, 1, 2}},
		"the greatest":         {open(100, 50), []int{0, 1, math.MaxInt}},
		"the least":            {open(100, 50), []int{math.MinInt, 0, 1}},
		"no units":             {nil, []int{0, 1}},
		"the first is shut":    {shut(open(100, 50, 30), 0), []int{0, 1, 2}},
		"the last is shut":     {shut(open(100, 50, 30), 2), []int{0, 1, 2}},
		"a Net below 0":        {open(100, 50, -1), []int{0, 1, 2}},
		"a Net below 0 beside": {open(-1, 100, 50), []int{1, 2}},
		"a Net above":          {open(100, 50, api.MaxGross+1), []int{0, 1, 2}},
		"too much together":    {open(100, 50, api.MaxGross), []int{0, 1}},
		"the greatest Nets":    {open(100, math.MaxInt64, math.MaxInt64), []int{0, 1, 2}},
		"one unit too many":    {alike(api.MaxUnits+1, 7), []int{0, 1, 2}},
		"far too many":         {alike(2*api.MaxUnits, 7), []int{0, 1, 2}},
	}
}

func TestUnitsAndPlacesThatMayNotBe(t *testing.T) {
	for name, x := range wrongMine() {
		for _, p := range []api.Promo{get(1, 1, 10_000), closing(get(1, 1, 10_000))} {
			if got, off := deal.BuyGet(p, x.units, x.mine); off != 0 || !slices.Equal(got, x.units) {
				t.Errorf("%s: BuyGet(%s): %s, %d", name, told(p), told(got), off)
			}
		}
		for _, p := range []api.Promo{together(5, 1), together(5, 1, 1), together(5, 1, 1, 1), closing(together(5, 1, 1, 1))} {
			for at := range p.Parts { // one part alone has what may not be, at each place
				parts := slices.Repeat([][]int{nil}, len(p.Parts))
				for i := range parts {
					if len(x.units) > 1 && x.units[0].Open && x.units[1].Open {
						parts[i] = []int{0, 1}
					}
				}
				parts[at] = x.mine
				if got, off := deal.Bundle(p, x.units, parts); off != 0 || !slices.Equal(got, x.units) {
					t.Errorf("%s: Bundle(%s, %v): %s, %d", name, told(p), parts, told(got), off)
				}
			}
		}
	}
	for name, units := range map[string][]api.Unit{"a Net below 0": open(9, -1), "too much together": open(api.MaxGross, 1), "too many": alike(api.MaxUnits+1, 0)} {
		for _, parts := range [][][]int{{nil}, {{0}}} { // also where no place is asked for
			if got, off := deal.Bundle(closing(together(0, 1)), units, parts); off != 0 || !slices.Equal(got, units) {
				t.Errorf("%s: Bundle of the parts %v: %s, %d", name, parts, told(got), off)
			}
		}
	}
}

// Places that may not be in a part that is not come to, as one ahead of it has not enough.
func TestEachPartIsLookedAtAheadOfTheMaking(t *testing.T) {
	units := open(100, 50, 30)
	for _, wrong := range [][]int{{1, 0}, {3}, {-1}, {2, 2}} {
		for _, parts := range [][][]int{{nil, wrong}, {{0}, wrong}, {wrong, {0}}, {{0, 1, 2}, wrong}} {
			if got, off := deal.Bundle(closing(together(5, 1, 1)), units, parts); off != 0 || !slices.Equal(got, units) {
				t.Errorf("Bundle of the parts %v: %s, %d", parts, told(got), off)
			}
		}
	}
	holdsBundle(t, closing(together(5, 1, 1)), shut(units, 0), [][]int{{1}, {2}})
	holdsBundle(t, closing(together(5, 1, 1)), shut(units, 0), [][]int{{1}, {0, 2}})
}

// Numbers as small and as great as they may be held, at each place of what is right otherwise.
func TestFarNumbers(t *testing.T) {
	for _, x := range append(slices.Clone(far), 3, 4, 5, 100, 101, api.MaxRate, api.MaxRate+1, api.MaxUnits, api.MaxGross-10, api.MaxGross-9, api.MaxGross-8, api.MaxGross, api.MaxGross+1, api.MaxMoney, api.MaxMoney+1) {
		for place := range 4 {
			units, mine := open(1, 7, 1, 0), []int{0, 1, 2, 3}
			units[place].Net = x
			for _, p := range []api.Promo{get(1, 1, 10_000), closing(get(1, 2, 3_333))} {
				holdsBuyGet(t, p, units, mine)
			}
			for _, p := range []api.Promo{together(2, 1, 1), closing(together(0, 1, 2))} {
				holdsBundle(t, p, units, [][]int{mine, mine})
				holdsBundle(t, p, units, [][]int{{place}, mine})
			}
			far := slices.Clone(mine)
			far[place] = int(x)
			holdsBuyGet(t, get(1, 1, 10_000), open(4, 7, 5, 6), far)
			holdsBundle(t, together(2, 1, 1), open(4, 7, 5, 6), [][]int{mine, far})
			holdsBundle(t, together(2, 1, 1), open(4, 7, 5, 6), [][]int{far, mine})
		}
		units, mine := open(40, 70, 50, 60), []int{0, 1, 2, 3}
		for _, p := range []api.Promo{get(int(x), 1, 10_000), get(1, int(x), 10_000), get(int(x), int(x), 10_000), get(1, 1, x), get(int(x), 1, x)} {
			holdsBuyGet(t, p, units, mine)
			holdsBuyGet(t, closing(p), units, mine)
		}
		for _, p := range []api.Promo{together(x, 1, 1), together(2, int(x), 1), together(2, 1, int(x)), together(x, int(x), int(x))} {
			holdsBundle(t, p, units, [][]int{mine, mine})
			holdsBundle(t, closing(p), units, [][]int{mine, mine})
		}
	}
	for _, units := range [][]api.Unit{open(math.MaxInt64, math.MaxInt64, 2), open(math.MinInt64, math.MinInt64, 7), alike(1<<16, 1<<48)} { // they come to 0, or below, where sums go round
		if got, off := deal.BuyGet(get(1, 1, 10_000), units, []int{0, 1}); off != 0 || !slices.Equal(got, units) {
			t.Errorf("BuyGet of %s: %d", told(units), off)
		}
		if got, off := deal.Bundle(together(0, 2), units, [][]int{{0, 1}}); off != 0 || !slices.Equal(got, units) {
			t.Errorf("Bundle of %s: %d", told(units), off)
		}
	}
}

// Least, Scope (a promo's own, and a part's), Group, Code, Id and Priority play no part.
func TestWhatPlaysNoPart(t *testing.T) {
	units, mine := open(100, 50, 30, 7), []int{0, 2, 3}
	parts := [][]int{{0, 2}, {1, 2, 3}}
	for name, turn := range map[string]func(p *api.Promo){
		"a Least that is not met": func(p *api.Promo) { p.Least = 188 },
		"a Least of MaxGross":     func(p *api.Promo) { p.Least = api.MaxGross },
		"a Least that is met":     func(p *api.Promo) { p.Least = 1 },
		"a Scope of Skus": func(p *api.Promo) {
			if p.Kind == api.BuyGet {
				p.Scope.Skus = []string{"q", "r"}
			}
		},
		"a Scope of Categories": func(p *api.Promo) {
			if p.Kind == api.BuyGet {
				p.Scope.Categories = []string{"q"}
			}
		},
		"a part's Scope": func(p *api.Promo) {
			if p.Kind == api.Bundle {
				p.Parts[0].Scope.Skus, p.Parts[1].Scope.Categories = []string{"q"}, []string{"r", "s"}
			}
		},
		"a Group":     func(p *api.Promo) { p.Group = "g" },
		"a Code":      func(p *api.Promo) { p.Code = "k" },
		"another Id":  func(p *api.Promo) { p.Id = "z-9" },
		"a Priority":  func(p *api.Promo) { p.Priority = 1_000 },
		"all of them": func(p *api.Promo) { p.Least, p.Group, p.Code, p.Id, p.Priority = 9_999, "g", "k", "z", 7 },
	} {
		for _, p := range []api.Promo{get(1, 1, 5_000), together(20, 1, 1), closing(get(1, 1, 5_000)), closing(together(20, 1, 1))} {
			want, wantOff := deal.BuyGet(p, units, mine)
			wantBundle, wantBundleOff := deal.Bundle(p, units, parts)
			if wantOff+wantBundleOff == 0 {
				t.Fatalf("%s takes nothing off", told(p))
			}
			p := copied(p)
			turn(&p)
			if got, off := deal.BuyGet(p, units, mine); off != wantOff || !slices.Equal(got, want) {
				t.Errorf("%s: BuyGet(%s): %s, %d; want %s, %d", name, told(p), told(got), off, told(want), wantOff)
			}
			if got, off := deal.Bundle(p, units, parts); off != wantBundleOff || !slices.Equal(got, wantBundle) {
				t.Errorf("%s: Bundle(%s): %s, %d; want %s, %d", name, told(p), told(got), off, told(wantBundle), wantBundleOff)
			}
		}
	}
}

// little is units of few Nets, and one that is shut.
func little(nets ...int64) []api.Unit {
	return append(open(nets...), api.Unit{Net: 3})
}

func TestAllLittleRows(t *testing.T) {
	var all []api.Promo
	for _, p := range []api.Promo{get(1, 1, 10_000), get(1, 1, 5_000), get(1, 2, 3_333), get(2, 1, 5_000), get(2, 2, 10_000), get(1, 1, 1_000), get(3, 1, 9_999)} {
		all = append(all, p, closing(p))
	}
	lists(5, little(0, 2, 5), func(units []api.Unit) {
		for _, mine := range some(len(units)) {
			for _, p := range all {
				holdsBuyGet(t, p, units, mine)
			}
		}
	})
}

func TestAllLittleBundles(t *testing.T) {
	var all []api.Promo
	for _, p := range []api.Promo{together(0, 1), together(2, 1), together(3, 2), together(0, 1, 1), together(3, 1, 1), together(7, 1, 1), together(2, 2, 1), together(5, 1, 2)} {
		all = append(all, p, closing(p))
	}
	lists(4, little(0, 2, 5), func(units []api.Unit) {
		for _, first := range some(len(units)) {
			for _, p := range all {
				if len(p.Parts) == 1 {
					holdsBundle(t, p, units, [][]int{first})
				}
			}
			for _, second := range some(len(units)) {
				for _, p := range all {
					if len(p.Parts) == 2 {
						holdsBundle(t, p, units, [][]int{first, second})
					}
				}
			}
		}
	})
}

// anyUnits is some units that may be, and some places of them for each of n parts.
func anyUnits(chance *rand.Rand, n int) ([]api.Unit, [][]int) {
	most := []int64{2, 5, 100, 100_000, api.MaxGross / 30}[chance.Intn(5)]
	units, parts := []api.Unit(nil), make([][]int, n)
	for i := range chance.Intn(30) {
		units = append(units, api.Unit{Line: i/3 - 4, Net: chance.Int63n(most + 1), Open: chance.Intn(6) > 0})
	}
	for i := range parts {
		few := 1 + chance.Intn(4)
		for place, u := range units {
			if u.Open && chance.Intn(5) < few {
				parts[i] = append(parts[i], place)
			}
		}
	}
	return units, parts
}

func anyGet(chance *rand.Rand) api.Promo {
	p := get(1+chance.Intn(4), 1+chance.Intn(4), []int64{1, 3_333, 5_000, 10_000, 1 + chance.Int63n(10_000)}[chance.Intn(5)])
	p.Closes = chance.Intn(2) == 0
	return p
}

// anyBundle is one for some part of what its units may cost together.
func anyBundle(chance *rand.Rand, units []api.Unit) api.Promo {
	p := together(0)
	all := int64(0)
	for range 1 + chance.Intn(3) {
		p.Parts = append(p.Parts, api.Part{Count: 1 + chance.Intn(1+chance.Intn(4))})
	}
	for _, u := range units {
		all += u.Net
	}
	p.Amount = chance.Int63n(1 + chance.Int63n(1+all/int64(1+chance.Intn(10))))
	p.Closes = chance.Intn(2) == 0
	return p
}

func TestAnyLists(t *testing.T) {
	chance := rand.New(rand.NewSource(1))
	made := 0
	for range 20_000 {
		units, parts := anyUnits(chance, 3)
		holdsBuyGet(t, anyGet(chance), units, parts[0])
		p := anyBundle(chance, units)
		holdsBundle(t, p, units, parts[:len(p.Parts)])
		if _, off := deal.Bundle(p, units, parts[:len(p.Parts)]); off > 0 {
			made++
		}
	}
	if made < 5_000 {
		t.Errorf("of 20,000 only %d take something off", made)
	}
}

// behindOf asks what holds of both: Nets less what is taken off are the Nets behind, none of which is below 0; what is nobody's is as it was; and what is told may be asked again.
func behindOf(t *testing.T, p api.Promo, units, behind []api.Unit, off int64, of ...[]int) {
	t.Helper()
	left, isMine := off, make(map[int]bool)
	for _, mine := range of {
		for _, place := range mine {
			isMine[place] = true
		}
	}
	if len(behind) != len(units) || off < 0 {
		t.Fatalf("%s, %s, %v: %d units, %d", told(p), told(units), of, len(behind), off)
	}
	for i, u := range behind {
		left -= units[i].Net - u.Net
		if u.Net < 0 || u.Net > units[i].Net || u.Line != units[i].Line || !isMine[i] && u != units[i] {
			t.Fatalf("%s, %s, %v: the unit %d is %+v", told(p), told(units), of, i, u)
		}
		if u.Open != units[i].Open && !(p.Closes && off > 0) || p.Closes && u.Open && u != units[i] {
			t.Fatalf("%s, %s, %v: the unit %d is %+v", told(p), told(units), of, i, u)
		}
	}
	if left != 0 || !cut.May(behind, nil) {
		t.Fatalf("%s, %s, %v: %s, %d", told(p), told(units), of, told(behind), off)
	}
}

func TestNetsLessWhatIsTakenOffAreTheNetsBehind(t *testing.T) {
	chance := rand.New(rand.NewSource(2))
	for range 5_000 {
		units, parts := anyUnits(chance, 3)
		for range 4 {
			p := anyGet(chance)
			behind, off := deal.BuyGet(p, units, parts[0])
			behindOf(t, p, units, behind, off, parts[0])
			p = anyBundle(chance, units)
			behind, off = deal.Bundle(p, units, parts[:len(p.Parts)])
			behindOf(t, p, units, behind, off, parts[:len(p.Parts)]...)
			if !p.Closes {
				units = behind
			}
		}
	}
}

// A bundle's units cost Amount together: of those of one that Closes so much is left for each bundle, and all the others are as they were.
func TestABundlesUnitsCostAmountTogether(t *testing.T) {
	chance := rand.New(rand.NewSource(3))
	for range 10_000 {
		units, parts := anyUnits(chance, 3)
		p := closing(anyBundle(chance, units))
		behind, off := deal.Bundle(p, units, parts[:len(p.Parts)])
		each, had, cost := 0, 0, int64(0)
		for _, part := range p.Parts {
			each += part.Count
		}
		for i, u := range behind {
			if u.Open != units[i].Open {
				had++
				cost += u.Net
			}
		}
		if had%each != 0 || cost != p.Amount*int64(had/each) || (off > 0) != (had > 0) {
			t.Fatalf("Bundle(%s, %s, %v): %d units of %d each cost %d", told(p), told(units), parts, had, each, cost)
		}
	}
}

// As many units as may be, and one more.
func TestOfMaxUnits(t *testing.T) {
	const n, net = api.MaxUnits, api.MaxGross / api.MaxUnits
	units, mine := alike(n, net), places(n)
	units[77].Net, units[78].Net = 0, 2*units[78].Net
	more := append(alike(1, 0), units...)
	for _, p := range []api.Promo{get(1, 1, 10_000), get(100, 100, 3_333), closing(get(2, 1, 5_000))} {
		holdsBuyGet(t, p, units, mine)
		holdsBuyGet(t, p, units, mine[1:])
		holdsBuyGet(t, p, shut(units, 500), append(slices.Clone(mine[:500]), mine[501:]...))
		if _, off := deal.BuyGet(p, units, mine); off == 0 {
			t.Errorf("BuyGet(%s) takes nothing off of MaxUnits", told(p))
		}
		if got, off := deal.BuyGet(p, more, mine); off != 0 || !slices.Equal(got, more) {
			t.Errorf("BuyGet(%s) takes %d off of one unit more", told(p), off)
		}
	}
	parts := [][]int{mine, mine, mine}
	for _, x := range []struct {
		p       api.Promo
		bundles int64
	}{
		{together(0, 1), n - 1}, // the one of 0 is the last
		{together(net-1, 1), n - 1},
		{together(net, 1), 1}, // the one of twice as much
		{together(0, 100, 100, 100), n / 300},
		{closing(together(3*net-1, 1, 1, 1)), n / 3},
		{closing(together(2*net-5, 1, 1)), n/2 - 1}, // the last has the one of 0
		{closing(together(api.MaxGross-1, 1, 1)), 0},
	} {
		got, off := deal.Bundle(x.p, units, parts[:len(x.p.Parts)])
		each, above := int64(0), -x.bundles*x.p.Amount
		for _, part := range x.p.Parts {
			each += int64(part.Count)
		}
		if x.bundles > 0 {
			above += (x.bundles*each + 1) * net
		}
		if off != above {
			t.Errorf("Bundle(%s) takes %d off of MaxUnits, want %d", told(x.p), off, above)
		}
		behindOf(t, x.p, units, got, off, mine)
		if got, off := deal.Bundle(x.p, more, parts[:len(x.p.Parts)]); off != 0 || !slices.Equal(got, more) {
			t.Errorf("Bundle(%s) takes %d off of one unit more", told(x.p), off)
		}
	}
}

// What is handed in or out is written to.

// roomy is l with room behind its end, filled with that.
func roomy[T any](l []T, room ...T) []T {
	return append(slices.Clip(slices.Clone(l)), room...)[:len(l)]
}

// whole is a copy of l with the room behind its end.
func whole[T any](l []T) []T { return slices.Clone(l[:cap(l)]) }

// both is some promos of the two Kinds, also ones that are not right, or of none of them.
func both() []api.Promo {
	l := []api.Promo{
		get(1, 1, 10_000), get(1, 1, 1), get(2, 1, 5_000), get(0, 1, 1), get(100, 100, 5_000),
		together(0, 1), together(10, 1, 1), together(20, 2, 1), together(api.MaxGross, 1), together(5, 1, 1, 1), together(5, 0),
		{}, {Id: "p", Kind: api.Percent, Rate: 5_000},
	}
	for _, p := range slices.Clone(l) {
		l = append(l, closing(p))
	}
	return l
}

// What is handed in stays, with the room behind its end (R3); and what stands in that room plays no part.
func TestTheRoomBehindLists(t *testing.T) {
	for _, p := range both() {
		for _, units := range [][]api.Unit{nil, open(9), open(60, 50, 0), shut(open(60, 50, 40), 1), open(-1, 5, 5), open(api.MaxGross, 5, 1)} {
			for _, mine := range [][]int{nil, {0}, {0, 2}, {2, 0}, {0, 1, 2}} {
				p := copied(p)
				p.Tiers = roomy(p.Tiers, api.Tier{Rate: -1})
				for i := range p.Parts {
					p.Parts[i].Scope = api.Scope{Skus: roomy([]string{"a"}, "z", ""), Categories: roomy(nil, "y", "")}
				}
				p.Parts = roomy(p.Parts, api.Part{Count: 1}, api.Part{Count: -1})
				p.Scope = api.Scope{Skus: roomy(nil, "z", ""), Categories: roomy(nil, "y", "")}
				given := roomy(units, open(7, -1, api.MaxGross)...)
				parts := roomy([][]int{roomy(mine, 1, 0, 99), roomy(mine, 2, 1), roomy([]int{0}, 1)}[:min(3, len(p.Parts))], []int{0}, []int{1, 0})
				promoParts, promoTiers, promoSkus := whole(p.Parts), whole(p.Tiers), whole(p.Scope.Skus)
				partSkus := make([][]string, 0, len(p.Parts))
				for _, part := range p.Parts {
					partSkus = append(partSkus, whole(part.Scope.Skus))
				}
				givenWere, partsWere := whole(given), copiedParts(whole(parts))
				ofEach := make([][]int, 0, len(parts))
				for _, of := range parts {
					ofEach = append(ofEach, whole(of))
				}
				of := roomy(mine, 1, 0, 99)
				ofWere := whole(of)
				holdsBuyGet(t, p, given, of)
				holdsBundle(t, p, given, parts)
				for _, tell := range []func() ([]api.Unit, int64){
					func() ([]api.Unit, int64) { return deal.BuyGet(p, given, of) },
					func() ([]api.Unit, int64) { return deal.Bundle(p, given, parts) },
				} {
					out, _ := tell()
					_ = append(out, api.Unit{Line: -1})
				}
				if !slices.Equal(whole(given), givenWere) || !slices.Equal(whole(of), ofWere) || !reflect.DeepEqual(copiedParts(whole(parts)), partsWere) {
					t.Fatalf("%s, %s, %v: what was handed in is another, or the room behind an end", told(p), told(units), mine)
				}
				for i, of := range parts {
					if !slices.Equal(whole(of), ofEach[i]) {
						t.Fatalf("%s, %s: the part %d is another, or the room behind its end", told(p), told(units), i)
					}
				}
				if !reflect.DeepEqual(whole(p.Parts), promoParts) || !slices.Equal(whole(p.Tiers), promoTiers) || !slices.Equal(whole(p.Scope.Skus), promoSkus) {
					t.Fatalf("%s is another, or the room behind an end of it", told(p))
				}
				for i, part := range p.Parts {
					if !slices.Equal(whole(part.Scope.Skus), partSkus[i]) {
						t.Fatalf("%s: the Scope of its part %d is another, or the room behind its end", told(p), i)
					}
				}
			}
		}
	}
}

// Lists of one memory, of which one is longer.
func TestListsOfOneMemory(t *testing.T) {
	units, mine := open(9, 5, 7, 1, 7), []int{0, 1, 2, 3, 4}
	for from := range len(units) + 1 {
		for to := from; to <= len(units); to++ {
			for n := range len(mine) + 1 {
				holdsBuyGet(t, closing(get(1, 1, 5_000)), units[from:to], mine[:n])
				holdsBuyGet(t, get(2, 1, 10_000), units[from:to:to], mine[n:])
				for k := range len(mine) + 1 {
					holdsBundle(t, closing(together(5, 1, 1)), units[from:to], [][]int{mine[:n], mine[:k]})
					holdsBundle(t, together(0, 1, 2), units[from:to:to], [][]int{mine[:n], mine[min(n, k):n]})
				}
			}
		}
	}
	parts := [][]int{mine[:3], mine, mine[1:]}
	for n := range 3 {
		holdsBundle(t, together(2, []int{1, 2, 1}[:n+1]...), units, parts[:n+1])
		holdsBundle(t, together(2, []int{1, 2, 1}[n:]...), units, parts[n:])
	}
}

// What is handed out is new memory, also where nothing was taken off: who writes into it, or into the room behind its end, changes nothing that was handed in, and nothing that is told later (R3).
func TestWhatIsHandedOutIsNewMemory(t *testing.T) {
	for _, p := range both() {
		for _, mine := range [][]int{nil, {0}, {0, 1, 2}, {2, 1}, {3}, {-1}, {0, 9}} {
			for _, n := range []int{0, 1, 4} {
				for _, more := range []int{0, 1} { // one part more than the promo has
					all := shut(open(60, 50, 3, 4, 8, 9), 3)
					units, parts := all[:n], slices.Repeat([][]int{mine}, len(p.Parts)+more)
					were, mineWas := slices.Clone(all), slices.Clone(mine)
					for _, tell := range []func() ([]api.Unit, int64){
						func() ([]api.Unit, int64) { return deal.BuyGet(p, units, mine) },
						func() ([]api.Unit, int64) { return deal.Bundle(p, units, parts) },
					} {
						got, off := tell()
						again, _ := tell()
						want := slices.Clone(again)
						for i := range got[:cap(got)] {
							got[:cap(got)][i] = api.Unit{Line: -1, Net: -1}
						}
						_ = append(got, api.Unit{Line: -2})
						if !slices.Equal(all, were) || !slices.Equal(mine, mineWas) {
							t.Fatalf("who writes into what %s told changes what was handed in", told(p))
						}
						if !slices.Equal(again, want) {
							t.Fatalf("who writes into what %s told changes what was told beside it", told(p))
						}
						if later, laterOff := tell(); !slices.Equal(later, want) || laterOff != off {
							t.Fatalf("who writes into what %s told changes what is told later", told(p))
						}
					}
				}
			}
		}
	}
}

// What is handed in is not kept: who writes into it later changes nothing that was told (R3).
func TestWhatIsHandedInIsNotKept(t *testing.T) {
	for _, p := range both() {
		for _, mine := range [][]int{nil, {0}, {0, 1, 2}, {2, 1}} {
			p, units, mine := copied(p), open(60, 50, 3), slices.Clone(mine)
			parts := slices.Repeat([][]int{mine}, len(p.Parts))
			got, _ := deal.BuyGet(p, units, mine)
			gotBundle, _ := deal.Bundle(p, units, parts)
			want, wantBundle := slices.Clone(got), slices.Clone(gotBundle)
			for i := range p.Parts {
				p.Parts[i].Count = 7
			}
			for i := range units {
				units[i] = api.Unit{Line: 8, Net: 8}
			}
			for i := range mine {
				mine[i] = 7
			}
			for i := range parts {
				parts[i] = []int{1}
			}
			if !slices.Equal(got, want) || !slices.Equal(gotBundle, wantBundle) {
				t.Fatalf("%s: who writes into what was handed in changes what was told", told(p))
			}
			holdsBuyGet(t, p, units, mine)
			holdsBundle(t, p, units, parts)
		}
	}
}

// What was asked of others plays no part, and asked again the same is told (R2).
func TestAskedAgain(t *testing.T) {
	all := both()
	for range 3 {
		for _, p := range all {
			for _, mine := range [][]int{{0, 2}, {0}, nil, {2, 0}} {
				parts := slices.Repeat([][]int{mine}, len(p.Parts))
				for _, units := range [][]api.Unit{open(60, 50, 3), open(3, -1), open(7, 7, 7), nil} {
					holdsBuyGet(t, p, units, mine)
					holdsBundle(t, p, units, parts)
				}
			}
		}
		slices.Reverse(all)
	}
}

// Asked by many at one time, of the same lists, all are told the same.
func TestAskedAtOneTime(t *testing.T) {
	units, mine := open(5, 9, 7, 6), []int{0, 1, 2, 3}
	row, pair, parts := closing(get(1, 1, 10_000)), closing(together(10, 1, 1)), [][]int{mine, mine}
	want, wantBundle := shut(open(0, 9, 0, 6), mine...), shut(open(5, 6, 4, 5), mine...)
	var all sync.WaitGroup
	for range 8 {
		all.Go(func() {
			for range 100 {
				got, off := deal.BuyGet(row, units, mine)
				gotBundle, offBundle := deal.Bundle(pair, units, parts)
				if !slices.Equal(got, want) || off != 12 || !slices.Equal(gotBundle, wantBundle) || offBundle != 7 {
					t.Errorf("asked at one time with others: %s, %d, %s, %d", told(got), off, told(gotBundle), offBundle)
				}
			}
		})
	}
	all.Wait()
}

// Of very many things each call ends, and soon (R1).
func TestOfVeryMany(t *testing.T) {
	const n = 1_000_000
	units, mine := make([]api.Unit, n), places(n)
	for _, p := range both() {
		for _, x := range []struct {
			units []api.Unit
			mine  []int
		}{{units, mine}, {units, nil}, {open(60, 50), mine}} {
			if got, off := deal.BuyGet(p, x.units, x.mine); off != 0 || !slices.Equal(got, x.units) {
				t.Errorf("BuyGet(%s) of %d units and %d places: %d", told(p), len(x.units), len(x.mine), off)
			}
			if got, off := deal.Bundle(p, x.units, slices.Repeat([][]int{x.mine}, len(p.Parts))); off != 0 || !slices.Equal(got, x.units) {
				t.Errorf("Bundle(%s) of %d units and %d places: %d", told(p), len(x.units), len(x.mine), off)
			}
		}
		if got, off := deal.Bundle(p, open(60, 50), slices.Repeat([][]int{{0, 1}}, n)); off != 0 || !slices.Equal(got, open(60, 50)) {
			t.Errorf("Bundle(%s) of very many parts: %s, %d", told(p), told(got), off)
		}
	}
	p := together(5, slices.Repeat([]int{1}, n)...)
	if got, off := deal.Bundle(p, open(60, 50), slices.Repeat([][]int{{0, 1}}, n)); off != 0 || !slices.Equal(got, open(60, 50)) {
		t.Errorf("Bundle of a promo of very many parts: %s, %d", told(got), off)
	}
}
