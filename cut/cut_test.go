package cut_test

import (
	"fmt"
	"math"
	"math/big"
	"math/rand"
	"reflect"
	"slices"
	"sync"
	"testing"

	"haberdash/api"
	"haberdash/cut"
	"haberdash/promo"
)

// The chapter's words once more, with the limits as numbers, and sums in numbers without an end.

func num(x int64) *big.Int { return big.NewInt(x) }

// added is the Nets of those units together.
func added(units []api.Unit, places []int) *big.Int {
	all := new(big.Int)
	for _, place := range places {
		all.Add(all, num(units[place].Net))
	}
	return all
}

// places is all places of n things.
func places(n int) []int {
	l := make([]int, 0, n)
	for i := range n {
		l = append(l, i)
	}
	return l
}

func may(units []api.Unit, mine []int) bool {
	if len(units) > 100_000 {
		return false
	}
	for _, u := range units {
		if u.Net < 0 || u.Net > 10_000_000_000_000 {
			return false
		}
	}
	if added(units, places(len(units))).Cmp(num(10_000_000_000_000)) > 0 {
		return false
	}
	for i, place := range mine {
		if place < 0 || place > len(units)-1 || i > 0 && mine[i-1] >= place {
			return false
		}
		if !units[place].Open {
			return false
		}
	}
	return true
}

// reached goes from the first tier to the last.
func reached(tiers []api.Tier, x int64) (api.Tier, bool) {
	var last api.Tier
	is := false
	for _, t := range tiers {
		if t.Least <= x {
			last, is = t, true
		}
	}
	return last, is
}

// rated is rate of x, of two whole numbers that are as near the greater.
func rated(x *big.Int, rate int64) *big.Int {
	twice := new(big.Int).Mul(x, num(2*rate))
	return twice.Quo(twice.Add(twice, num(10_000)), num(20_000))
}

func least(a, b *big.Int) *big.Int {
	if a.Cmp(b) < 0 {
		return a
	}
	return b
}

// parts is total by those weights: who gets one more is the first of those that a stable sort lays in front.
func parts(total *big.Int, weights []*big.Int) []*big.Int {
	sum, left := new(big.Int), new(big.Int).Set(total)
	for _, w := range weights {
		sum.Add(sum, w)
	}
	out, remainders := make([]*big.Int, len(weights)), make([]*big.Int, len(weights))
	for i, w := range weights {
		out[i], remainders[i] = new(big.Int), new(big.Int)
		if sum.Sign() > 0 {
			out[i].QuoRem(new(big.Int).Mul(total, w), sum, remainders[i])
		}
		left.Sub(left, out[i])
	}
	order := places(len(weights))
	slices.SortStableFunc(order, func(a, b int) int { return remainders[b].Cmp(remainders[a]) })
	for _, i := range order[:left.Int64()] {
		out[i].Add(out[i], num(1))
	}
	return out
}

// offs is what comes off of each of nets.
func offs(p api.Promo, nets []*big.Int) []*big.Int {
	out := make([]*big.Int, 0, len(nets))
	switch p.Kind {
	case 1:
		for _, net := range nets {
			out = append(out, rated(net, p.Rate))
		}
	case 2:
		for _, net := range nets {
			out = append(out, least(num(p.Amount), net))
		}
	case 6:
		t, is := reached(p.Tiers, int64(len(nets)))
		for _, net := range nets {
			off := new(big.Int)
			if is {
				off = least(net, off.Add(rated(net, t.Rate), num(t.Amount)))
			}
			out = append(out, off)
		}
	case 5:
		sum, off := new(big.Int), new(big.Int)
		for _, net := range nets {
			sum.Add(sum, net)
		}
		if t, is := reached(p.Tiers, sum.Int64()); is {
			off = least(sum, off.Add(rated(sum, t.Rate), num(t.Amount)))
		}
		out = parts(off, nets)
	}
	return out
}

// apply goes through what is said of Apply from the first word to the last. Which promos are right is told by chapter 12.
func apply(p api.Promo, units []api.Unit, mine []int) ([]api.Unit, int64) {
	as := slices.Clone(units)
	if !promo.Right(p) || !slices.Contains([]int{1, 2, 5, 6}, p.Kind) || !may(units, mine) {
		return as, 0
	}
	nets := make([]*big.Int, 0, len(mine))
	for _, place := range mine {
		nets = append(nets, num(units[place].Net))
	}
	behind, all := slices.Clone(units), int64(0)
	for i, off := range offs(p, nets) {
		behind[mine[i]].Net -= off.Int64()
		all += off.Int64()
		if p.Closes {
			behind[mine[i]].Open = false
		}
	}
	if all == 0 {
		return as, 0
	}
	return behind, all
}

// What the tests are made of.

func tier(least, rate, amount int64) api.Tier {
	return api.Tier{Least: least, Rate: rate, Amount: amount}
}

func percent(rate int64) api.Promo { return api.Promo{Id: "p", Kind: api.Percent, Rate: rate} }

func amount(x int64) api.Promo { return api.Promo{Id: "a", Kind: api.Amount, Amount: x} }

func spend(tiers ...api.Tier) api.Promo {
	return api.Promo{Id: "s", Kind: api.Spend, Tiers: tiers}
}

func count(tiers ...api.Tier) api.Promo {
	return api.Promo{Id: "c", Kind: api.Count, Tiers: tiers}
}

// closing is p that Closes.
func closing(p api.Promo) api.Promo {
	p.Closes = true
	return p
}

// open is units of those Nets, all of them Open, each of a line of its own.
func open(nets ...int64) []api.Unit {
	l := make([]api.Unit, 0, len(nets))
	for i, net := range nets {
		l = append(l, api.Unit{Line: i, Net: net, Open: true})
	}
	return l
}

// shut is l, of which those places are Open no more.
func shut(l []api.Unit, places ...int) []api.Unit {
	l = slices.Clone(l)
	for _, place := range places {
		l[place].Open = false
	}
	return l
}

// alike is n units of one Net.
func alike(n int, net int64) []api.Unit {
	return slices.Repeat([]api.Unit{{Line: 1, Net: net, Open: true}}, n)
}

// eachKind is one of each of the four Kinds, each of which takes something off of a unit of 1 and more.
func eachKind() []api.Promo {
	return []api.Promo{percent(5_000), amount(1), spend(tier(0, 5_000, 1)), count(tier(0, 5_000, 1))}
}

// lists calls f with each list of up to n of those things, a new one each time.
func lists[T any](n int, things []T, f func([]T)) {
	var longer func(l []T)
	longer = func(l []T) {
		f(slices.Clone(l))
		if len(l) == n {
			return
		}
		for _, x := range things {
			longer(append(l, x))
		}
	}
	longer(make([]T, 0, n))
}

// told is a thing as one line. Of a long one its beginning is enough.
func told(x any) string {
	s := fmt.Sprintf("%+v", x)
	return s[:min(len(s), 400)]
}

// copied is p in memory of its own.
func copied(p api.Promo) api.Promo {
	p.Scope = copiedScope(p.Scope)
	p.Parts, p.Tiers = slices.Clone(p.Parts), slices.Clone(p.Tiers)
	for i := range p.Parts {
		p.Parts[i].Scope = copiedScope(p.Parts[i].Scope)
	}
	return p
}

func copiedScope(s api.Scope) api.Scope {
	return api.Scope{Skus: slices.Clone(s.Skus), Categories: slices.Clone(s.Categories)}
}

// holds holds May and Apply against their words, and what is handed in against what it was.
func holds(t *testing.T, p api.Promo, units []api.Unit, mine []int) {
	t.Helper()
	promoWas, unitsWere, mineWere := copied(p), slices.Clone(units), slices.Clone(mine)
	if got, want := cut.May(units, mine), may(unitsWere, mineWere); got != want {
		t.Fatalf("May(%s, %s): %v, want %v", told(unitsWere), told(mineWere), got, want)
	}
	got, off := cut.Apply(p, units, mine)
	want, wantOff := apply(promoWas, unitsWere, mineWere)
	if !slices.Equal(got, want) || off != wantOff {
		t.Fatalf("Apply(%s, %s, %s): %s, %d; want %s, %d", told(promoWas), told(unitsWere), told(mineWere), told(got), off, told(want), wantOff)
	}
	if !reflect.DeepEqual(p, promoWas) || !slices.Equal(units, unitsWere) || !slices.Equal(mine, mineWere) {
		t.Fatalf("of %s, %s and %s was made %s, %s and %s", told(promoWas), told(unitsWere), told(mineWere), told(p), told(units), told(mine))
	}
}

// far is numbers that an int64 and an int hold, also where one of fewer bits would take them for little ones.
var far = []int64{math.MinInt64, math.MinInt64 + 1, -1 << 32, -1<<32 + 1, math.MinInt32, -2, -1, 1 << 32, 1<<32 + 1, 1 << 48, 1<<62 + 1, math.MaxInt64 - 1, math.MaxInt64}

// P15.1: May

func TestMay(t *testing.T) {
	three := open(1, 2, 3)
	for name, x := range map[string]struct {
		units []api.Unit
		mine  []int
		want  bool
	}{
		"no lists":                          {nil, nil, true},
		"empty lists":                       {[]api.Unit{}, []int{}, true},
		"no units, a place":                 {nil, []int{0}, false},
		"no places":                         {three, nil, true},
		"the first":                         {three, []int{0}, true},
		"the last":                          {three, []int{2}, true},
		"all":                               {three, []int{0, 1, 2}, true},
		"the two ends":                      {three, []int{0, 2}, true},
		"one twice":                         {three, []int{1, 1}, false},
		"the first twice":                   {three, []int{0, 0}, false},
		"one twice behind another":          {three, []int{0, 2, 2}, false},
		"falling":                           {three, []int{1, 0}, false},
		"falling at the end":                {three, []int{0, 2, 1}, false},
		"falling back to the first":         {three, []int{0, 1, 0}, false},
		"one below 0":                       {three, []int{-1}, false},
		"one below 0 ahead of others":       {three, []int{-1, 0, 1}, false},
		"how many there are":                {three, []int{3}, false},
		"how many there are, behind others": {three, []int{0, 1, 2, 3}, false},
		"one more than that":                {three, []int{4}, false},
		"one that is shut":                  {shut(three, 1), []int{1}, false},
		"one that is shut, among others":    {shut(three, 1), []int{0, 1, 2}, false},
		"one that is shut is passed over":   {shut(three, 1), []int{0, 2}, true},
		"the last is shut":                  {shut(three, 2), []int{0, 2}, false},
		"the first is shut":                 {shut(three, 0), []int{0}, false},
		"all are shut":                      {shut(three, 0, 1, 2), nil, true},
		"a Net of 0":                        {open(0), []int{0}, true},
		"a Net of -1":                       {open(-1), []int{0}, false},
		"a Net of -1 that is not mine":      {open(5, -1), []int{0}, false},
		"a Net of -1 first":                 {open(-1, 5), []int{1}, false},
		"a Net of -1 that is shut":          {shut(open(5, -1), 1), []int{0}, false},
		"a Net of MaxGross":                 {open(api.MaxGross), []int{0}, true},
		"a Net of one more":                 {open(api.MaxGross + 1), []int{0}, false},
		"a Net of one more, and no places":  {open(api.MaxGross + 1), nil, false},
		"one more, less by another":         {open(api.MaxGross+1, -1), nil, false},
		"just MaxGross":                     {open(api.MaxGross-7, 7), []int{0, 1}, true},
		"just MaxGross, and nothing":        {open(api.MaxGross, 0, 0), []int{0, 1}, true},
		"MaxGross, and 1":                   {open(api.MaxGross, 1), []int{0}, false},
		"1, and MaxGross":                   {open(1, api.MaxGross), nil, false},
		"MaxGross, and 1 that is shut":      {shut(open(api.MaxGross, 1), 1), []int{0}, false},
		"MaxGross, twice":                   {open(api.MaxGross, api.MaxGross), []int{0}, false},
		"one more by three":                 {open(api.MaxGross/2, api.MaxGross/2, 1), nil, false},
		"MaxUnits":                          {alike(api.MaxUnits, 3), []int{0, 77, 99_999}, true},
		"MaxUnits, all of them":             {alike(api.MaxUnits, 3), places(api.MaxUnits), true},
		"MaxUnits, one place more":          {alike(api.MaxUnits, 3), places(api.MaxUnits + 1), false},
		"MaxUnits, just MaxGross":           {alike(api.MaxUnits, api.MaxGross/api.MaxUnits), places(api.MaxUnits), true},
		"MaxUnits, each 1 more":             {alike(api.MaxUnits, api.MaxGross/api.MaxUnits+1), nil, false},
		"MaxUnits of MaxGross":              {alike(api.MaxUnits, api.MaxGross), nil, false},
		"one unit more":                     {alike(api.MaxUnits+1, 0), nil, false},
		"one unit more, and a place":        {alike(api.MaxUnits+1, 0), []int{0}, false},
		"many more":                         {alike(3*api.MaxUnits, 0), nil, false},
	} {
		if got := cut.May(x.units, x.mine); got != x.want {
			t.Errorf("%s: May(%s, %s): %v", name, told(x.units), told(x.mine), got)
		}
		for _, p := range eachKind() {
			holds(t, p, x.units, x.mine)
		}
	}
}

// Numbers as small and as great as they may be held, at each place of what is right otherwise.
func TestMayOfFarNumbers(t *testing.T) {
	for _, x := range append(far, 3, 4, 5, api.MaxUnits, api.MaxUnits+1, api.MaxGross-4, api.MaxGross-3, api.MaxGross-2, api.MaxGross, api.MaxGross+1, api.MaxMoney, api.MaxMoney+1) {
		for place := range 3 {
			units := open(1, 2, 1)
			units[place].Net = x
			mine := []int{0, 1, 2}
			want := x >= 0 && x <= api.MaxGross-(4-open(1, 2, 1)[place].Net)
			if got := cut.May(units, mine); got != want {
				t.Errorf("May(%s, %v): %v", told(units), mine, got)
			}
			for _, p := range eachKind() {
				holds(t, p, units, mine)
				holds(t, closing(p), units, nil)
			}
			mine[place] = int(x)
			if cut.May(open(1, 2, 1), mine) {
				t.Errorf("May(3 units, %v)", mine)
			}
			for _, p := range eachKind() {
				holds(t, p, open(1, 2, 1), mine)
				holds(t, p, open(1, 2, 1), []int{int(x)})
			}
		}
	}
	for _, units := range [][]api.Unit{open(math.MaxInt64, math.MaxInt64, 2), open(math.MinInt64, math.MinInt64), alike(1<<16, 1<<48), alike(api.MaxUnits, api.MaxMoney)} { // they come to 0, or below, where sums go round
		if cut.May(units, nil) {
			t.Errorf("May(%s, no places)", told(units))
		}
	}
}

// Lines play no part: they may be any numbers.
func TestLinesPlayNoPart(t *testing.T) {
	for _, x := range far {
		units := open(60, 50)
		units[0].Line, units[1].Line = int(x), 7
		if !cut.May(units, []int{0, 1}) {
			t.Errorf("May of a unit of the line %d", x)
		}
		got, off := cut.Apply(spend(tier(100, 0, 10)), units, []int{0, 1})
		if want := []api.Unit{{Line: int(x), Net: 55, Open: true}, {Line: 7, Net: 45, Open: true}}; !slices.Equal(got, want) || off != 10 {
			t.Errorf("Apply to a unit of the line %d: %s, %d", x, told(got), off)
		}
	}
}

// One thing that may not be, at each place of a full list.
func TestOneWrongThingAtEachPlace(t *testing.T) {
	const n = 300
	right := places(n)
	for place := range n {
		for _, u := range []api.Unit{{Net: -1, Open: true}, {Net: api.MaxGross, Open: true}, {Net: 1}, {Net: math.MinInt64, Open: true}} {
			units := alike(n, 1)
			units[place] = u
			if cut.May(units, right) {
				t.Fatalf("May of %s at %d", told(u), place)
			}
			holds(t, amount(1), units, right)
		}
		for _, x := range []int{-1, n, place - 1, place + 1} { // the two last are one of its neighbours twice, or none
			mine := places(n)
			mine[place] = x
			if cut.May(alike(n, 1), mine) {
				t.Fatalf("May of the place %d at %d", x, place)
			}
			holds(t, amount(1), alike(n, 1), mine)
		}
	}
}

func TestMayOfAllLittleLists(t *testing.T) {
	things := []api.Unit{{Net: 0, Open: true}, {Net: 1, Open: true}, {Net: 1}, {Net: -1, Open: true}, {Net: api.MaxGross, Open: true}}
	lists(3, things, func(units []api.Unit) {
		lists(3, []int{-1, 0, 1, 2, 3}, func(mine []int) {
			if got, want := cut.May(units, mine), may(units, mine); got != want {
				t.Fatalf("May(%s, %v): %v, want %v", told(units), mine, got, want)
			}
		})
	})
}

// P15.1: Reached

func TestReached(t *testing.T) {
	rising := []api.Tier{tier(0, 1, 0), tier(5, 2, 7), tier(9, 3, 0)}
	mixed := []api.Tier{tier(9, 1, 0), tier(2, 2, 0), tier(5, 3, 0)}
	twice := []api.Tier{tier(5, 1, 1), tier(5, 2, 2), tier(8, 3, 3)}
	for name, x := range map[string]struct {
		tiers []api.Tier
		x     int64
		want  int // its place; -1: none
	}{
		"no list":                         {nil, 5, -1},
		"no tiers":                        {[]api.Tier{}, math.MaxInt64, -1},
		"one below the first Least":       {rising, -1, -1},
		"just at the first":               {rising, 0, 0},
		"one below the second":            {rising, 4, 0},
		"just at the second":              {rising, 5, 1},
		"one above the second":            {rising, 6, 1},
		"one below the last":              {rising, 8, 1},
		"just at the last":                {rising, 9, 2},
		"the greatest":                    {rising, math.MaxInt64, 2},
		"the least":                       {rising, math.MinInt64, -1},
		"any order: below all":            {mixed, 1, -1},
		"any order: just the middle one":  {mixed, 2, 1},
		"any order: one below the last":   {mixed, 4, 1},
		"any order: at the last":          {mixed, 5, 2},
		"any order: all":                  {mixed, 9, 2},
		"falling: the last is reached":    {[]api.Tier{tier(9, 1, 0), tier(5, 2, 0), tier(1, 3, 0)}, 7, 2},
		"falling: all are":                {[]api.Tier{tier(9, 1, 0), tier(5, 2, 0), tier(1, 3, 0)}, 9, 2},
		"the first alone":                 {[]api.Tier{tier(1, 1, 0), tier(5, 2, 0), tier(3, 3, 0)}, 2, 0},
		"one Least twice":                 {twice, 5, 1},
		"one Least twice, one below":      {twice, 4, -1},
		"one Least twice, one behind":     {twice, 8, 2},
		"a tier of nothing":               {[]api.Tier{{}}, 0, 0},
		"a tier of nothing, one below":    {[]api.Tier{{}}, -1, -1},
		"a tier of nothing behind others": {append(slices.Clone(rising), api.Tier{}), 9, 3},
		"a Least below 0":                 {[]api.Tier{tier(-5, -7, -9)}, -5, 0},
		"a Least below 0, one below":      {[]api.Tier{tier(-5, -7, -9)}, -6, -1},
		"the least Least":                 {[]api.Tier{tier(math.MinInt64, 1, 1)}, math.MinInt64, 0},
		"the greatest Least":              {[]api.Tier{tier(math.MaxInt64, 1, 1)}, math.MaxInt64, 0},
		"the greatest Least, one below":   {[]api.Tier{tier(math.MaxInt64, 1, 1)}, math.MaxInt64 - 1, -1},
		"ends that go round":              {[]api.Tier{tier(math.MaxInt64, 1, 1)}, math.MinInt64, -1},
		"ends that go round, reached":     {[]api.Tier{tier(math.MinInt64, 1, 1)}, math.MaxInt64, 0},
		"a Least of 2^32":                 {[]api.Tier{tier(1<<32, 1, 1)}, 5, -1},
		"more tiers than a promo has":     {slices.Repeat([]api.Tier{tier(3, 4, 5)}, 1_000), 3, 999},
	} {
		got, is := cut.Reached(x.tiers, x.x)
		var want api.Tier
		if x.want >= 0 {
			want = x.tiers[x.want]
		}
		if got != want || is != (x.want >= 0) {
			t.Errorf("%s: Reached(%s, %d): %+v, %v; want %+v", name, told(x.tiers), x.x, got, is, want)
		}
	}
}

func TestReachedOfAllLittleLists(t *testing.T) {
	var things []api.Tier
	for i, x := range []int64{math.MinInt64, -1, 0, 1, 2, math.MaxInt64} {
		things = append(things, tier(x, int64(i), 0), tier(x, 0, int64(i)))
	}
	lists(3, things, func(tiers []api.Tier) {
		was := slices.Clone(tiers)
		for _, x := range []int64{math.MinInt64, -2, -1, 0, 1, 2, 3, math.MaxInt64} {
			got, is := cut.Reached(tiers, x)
			if want, wantIs := reached(was, x); got != want || is != wantIs {
				t.Fatalf("Reached(%s, %d): %+v, %v; want %+v, %v", told(was), x, got, is, want, wantIs)
			}
		}
		if !slices.Equal(tiers, was) {
			t.Fatalf("Reached made %s of %s", told(tiers), told(was))
		}
	})
}

// P15.2: Apply

// taken is what is asked of Apply: nets are what units cost that are all Open, want what they cost behind.
type taken struct {
	p    api.Promo
	nets []int64
	mine []int
	want []int64
}

// applies asks Apply of each of them, with a promo that Closes and one that doesn't.
func applies(t *testing.T, l map[string]taken) {
	t.Helper()
	for name, x := range l {
		for _, closes := range []bool{false, true} {
			x.p.Closes = closes
			units, want, all := open(x.nets...), open(x.want...), int64(0)
			for i := range units {
				all += units[i].Net - want[i].Net
			}
			if closes && all > 0 {
				want = shut(want, x.mine...)
			}
			if got, off := cut.Apply(x.p, units, x.mine); !slices.Equal(got, want) || off != all {
				t.Errorf("%s: Apply(%s, %s, %v): %s, %d; want %s, %d", name, told(x.p), told(x.nets), x.mine, told(got), off, told(want), all)
			}
			holds(t, x.p, units, x.mine)
		}
	}
}

func TestPercent(t *testing.T) {
	const most = api.MaxGross
	applies(t, map[string]taken{
		"no units":                            {percent(1_500), nil, nil, nil},
		"no places":                           {percent(1_500), []int64{199}, nil, []int64{199}},
		"of one":                              {percent(1_500), []int64{199}, []int{0}, []int64{169}},
		"of two of three":                     {percent(1_500), []int64{199, 7, 100}, []int{0, 2}, []int64{169, 7, 85}},
		"a half is the greater":               {percent(5_000), []int64{1, 2, 3, 5}, []int{0, 1, 2, 3}, []int64{0, 1, 1, 2}},
		"a half of 2,500":                     {percent(2_500), []int64{2, 6, 10}, []int{0, 1, 2}, []int64{1, 4, 7}},
		"just below a half":                   {percent(4_999), []int64{1, 10_000}, []int{0, 1}, []int64{1, 5_001}},
		"just above a half":                   {percent(5_001), []int64{1, 10_000}, []int{0, 1}, []int64{0, 4_999}},
		"each is rounded for itself":          {percent(1_000), []int64{5, 5, 4, 4}, []int{0, 1, 2, 3}, []int64{4, 4, 4, 4}},
		"the whole":                           {percent(10_000), []int64{199, 0, 1}, []int{0, 1, 2}, []int64{0, 0, 0}},
		"a Net of 0 among them":               {percent(1_000), []int64{10, 0, 10}, []int{0, 1, 2}, []int64{9, 0, 9}},
		"all of them 0":                       {percent(10_000), []int64{0, 0}, []int{0, 1}, []int64{0, 0}},
		"so little that it is nothing":        {percent(1), []int64{199, 4_999}, []int{0, 1}, []int64{199, 4_999}},
		"so little that it is just something": {percent(1), []int64{199, 5_000}, []int{0, 1}, []int64{199, 4_999}},
		"of MaxGross":                         {percent(9_999), []int64{most}, []int{0}, []int64{most / 10_000}},
		"of MaxGross, the whole":              {percent(10_000), []int64{most}, []int{0}, []int64{0}},
		"of MaxGross, the least":              {percent(1), []int64{most - 1, 1}, []int{0, 1}, []int64{most - 1 - most/10_000, 1}},
	})
}

func TestAmount(t *testing.T) {
	applies(t, map[string]taken{
		"no units":                {amount(10), nil, nil, nil},
		"no places":               {amount(10), []int64{15}, nil, []int64{15}},
		"below the Net":           {amount(10), []int64{11}, []int{0}, []int64{1}},
		"just the Net":            {amount(10), []int64{10}, []int{0}, []int64{0}},
		"above the Net":           {amount(10), []int64{9}, []int{0}, []int64{0}},
		"below, just, and above":  {amount(10), []int64{15, 10, 5, 30, 0}, []int{0, 1, 2, 4}, []int64{5, 0, 0, 30, 0}},
		"all of them 0":           {amount(10), []int64{0, 0, 7}, []int{0, 1}, []int64{0, 0, 7}},
		"of 1":                    {amount(1), []int64{1, 2, 0}, []int{0, 1, 2}, []int64{0, 1, 0}},
		"of MaxPrice":             {amount(api.MaxPrice), []int64{api.MaxPrice - 1, api.MaxPrice, api.MaxPrice + 1}, []int{0, 1, 2}, []int64{0, 0, 1}},
		"of MaxPrice of MaxGross": {amount(api.MaxPrice), []int64{api.MaxGross}, []int{0}, []int64{api.MaxGross - api.MaxPrice}},
	})
}

func TestCount(t *testing.T) {
	const most = api.MaxGross
	two := []api.Tier{tier(2, 1_000, 0), tier(3, 0, 4)}
	applies(t, map[string]taken{
		"no units":                            {count(tier(0, 1_000, 1)), nil, nil, nil},
		"no places":                           {count(tier(0, 1_000, 1)), []int64{10}, nil, []int64{10}},
		"one below the first":                 {count(two...), []int64{10, 10, 10}, []int{1}, []int64{10, 10, 10}},
		"just at the first":                   {count(two...), []int64{10, 20, 30}, []int{0, 2}, []int64{9, 20, 27}},
		"just at the second":                  {count(two...), []int64{10, 3, 9}, []int{0, 1, 2}, []int64{6, 0, 5}},
		"above the second":                    {count(two...), []int64{10, 3, 9, 4}, []int{0, 1, 2, 3}, []int64{6, 0, 5, 0}},
		"by how many are mine, not all":       {count(two...), []int64{10, 10, 10, 10}, []int{2, 3}, []int64{10, 10, 9, 9}},
		"by how many, not what they cost":     {count(tier(3, 0, 1)), []int64{500, 500}, []int{0, 1}, []int64{500, 500}},
		"by how many, also of 0":              {count(tier(3, 0, 1)), []int64{0, 5, 0}, []int{0, 1, 2}, []int64{0, 4, 0}},
		"from 0 on":                           {count(tier(0, 0, 1)), []int64{5}, []int{0}, []int64{4}},
		"from 1 on":                           {count(tier(1, 0, 1)), []int64{5}, []int{0}, []int64{4}},
		"a half is the greater":               {count(tier(0, 5_000, 0)), []int64{1, 3, 4}, []int{0, 1, 2}, []int64{0, 1, 2}},
		"Rate and Amount, less than a Net":    {count(tier(0, 5_000, 1)), []int64{10}, []int{0}, []int64{4}},
		"Rate and Amount, just a Net":         {count(tier(0, 5_000, 5)), []int64{10}, []int{0}, []int64{0}},
		"Rate and Amount, more than a Net":    {count(tier(0, 5_000, 6)), []int64{10, 100, 12}, []int{0, 1, 2}, []int64{0, 44, 0}},
		"Rate of all, and an Amount":          {count(tier(0, 10_000, most)), []int64{10, 0, 7}, []int{0, 1}, []int64{0, 0, 7}},
		"Amount alone, more than a Net":       {count(tier(0, 0, 6)), []int64{5, 6, 7}, []int{0, 1, 2}, []int64{0, 0, 1}},
		"the last tier takes less":            {count(tier(1, 9_000, 0), tier(2, 1, 0)), []int64{100, 100}, []int{0, 1}, []int64{100, 100}},
		"all of them 0":                       {count(tier(0, 5_000, 6)), []int64{0, 0}, []int{0, 1}, []int64{0, 0}},
		"so little that it is nothing":        {count(tier(0, 1, 0)), []int64{4_999, 1}, []int{0, 1}, []int64{4_999, 1}},
		"so little that it is just something": {count(tier(0, 1, 0)), []int64{5_000, 1}, []int{0, 1}, []int64{4_999, 1}},
		"a Least that can't be reached":       {count(tier(most, 5_000, 6)), []int64{100, 100}, []int{0, 1}, []int64{100, 100}},
		"of MaxGross":                         {count(tier(1, 1, 1)), []int64{most}, []int{0}, []int64{most - most/10_000 - 1}},
		"of MaxGross, more than all":          {count(tier(1, 10_000, most)), []int64{most}, []int{0}, []int64{0}},
	})
}

func TestSpend(t *testing.T) {
	const most = api.MaxGross
	two := []api.Tier{tier(100, 1_000, 0), tier(200, 0, 50)}
	applies(t, map[string]taken{
		"no units":                               {spend(tier(0, 1_000, 1)), nil, nil, nil},
		"no places":                              {spend(tier(0, 1_000, 1)), []int64{10}, nil, []int64{10}},
		"the example":                            {spend(tier(100, 0, 10)), []int64{60, 50}, []int{0, 1}, []int64{55, 45}},
		"one below a tier":                       {spend(two...), []int64{60, 39}, []int{0, 1}, []int64{60, 39}},
		"just at a tier":                         {spend(two...), []int64{60, 40}, []int{0, 1}, []int64{54, 36}},
		"one below the second":                   {spend(two...), []int64{100, 99}, []int{0, 1}, []int64{90, 89}},
		"just at the second":                     {spend(two...), []int64{100, 100}, []int{0, 1}, []int64{75, 75}},
		"what is not mine is not counted":        {spend(two...), []int64{60, 500, 39}, []int{0, 2}, []int64{60, 500, 39}},
		"what is not mine stays":                 {spend(two...), []int64{60, 500, 40}, []int{0, 2}, []int64{54, 500, 36}},
		"by what they cost, not how many":        {spend(tier(3, 0, 1)), []int64{1, 1, 0}, []int{0, 1, 2}, []int64{1, 1, 0}},
		"Rate and Amount":                        {spend(tier(100, 1_000, 5)), []int64{60, 9, 50}, []int{0, 2}, []int64{51, 9, 43}},
		"a half is the greater, of all together": {spend(tier(0, 1_000, 0)), []int64{5, 5, 5}, []int{0, 1, 2}, []int64{4, 4, 5}},
		"just below a half, of all together":     {spend(tier(0, 1_000, 0)), []int64{5, 5, 4}, []int{0, 1, 2}, []int64{4, 5, 4}},
		"more off than they are":                 {spend(tier(0, 0, 1_000)), []int64{3, 4}, []int{0, 1}, []int64{0, 0}},
		"just as much off as they are":           {spend(tier(0, 0, 7)), []int64{3, 4}, []int{0, 1}, []int64{0, 0}},
		"one less off than they are":             {spend(tier(0, 0, 6)), []int64{3, 4}, []int{0, 1}, []int64{0, 1}},
		"Rate and Amount, more than they are":    {spend(tier(0, 9_000, 2)), []int64{4, 5, 1}, []int{0, 1, 2}, []int64{0, 0, 0}},
		"remainders that are alike":              {spend(tier(0, 0, 2)), []int64{5, 5, 5}, []int{0, 1, 2}, []int64{4, 4, 5}},
		"remainders that are alike, later mine":  {spend(tier(0, 0, 1)), []int64{9, 5, 9, 5}, []int{1, 3}, []int64{9, 4, 9, 5}},
		"the later remainder is the greater":     {spend(tier(0, 0, 1)), []int64{4, 5}, []int{0, 1}, []int64{4, 4}},
		"the first remainder is the greater":     {spend(tier(0, 0, 1)), []int64{5, 4}, []int{0, 1}, []int64{4, 4}},
		"the lesser Net has the remainder":       {spend(tier(0, 0, 5)), []int64{6, 6, 3}, []int{0, 1, 2}, []int64{4, 4, 2}},
		"the least Net gets one more":            {spend(tier(0, 0, 5)), []int64{30, 30, 10}, []int{0, 1, 2}, []int64{28, 28, 9}},
		"Nets of 0 among mine":                   {spend(tier(0, 0, 3)), []int64{0, 5, 0, 5, 0}, []int{0, 1, 2, 3, 4}, []int64{0, 3, 0, 4, 0}},
		"all of them 0":                          {spend(tier(0, 0, 1_000)), []int64{0, 0}, []int{0, 1}, []int64{0, 0}},
		"all of them 0, by a Rate":               {spend(tier(0, 10_000, 0)), []int64{0, 0, 9}, []int{0, 1}, []int64{0, 0, 9}},
		"so little that it is nothing":           {spend(tier(0, 1, 0)), []int64{4_000, 999}, []int{0, 1}, []int64{4_000, 999}},
		"so little that it is just something":    {spend(tier(0, 1, 0)), []int64{4_000, 1_000}, []int{0, 1}, []int64{3_999, 1_000}},
		"the last tier takes less":               {spend(tier(1, 9_000, 0), tier(200, 1, 0)), []int64{100, 100}, []int{0, 1}, []int64{100, 100}},
		"one alone":                              {spend(tier(7, 5_000, 0)), []int64{7, 100}, []int{0}, []int64{3, 100}},
		"at MaxGross":                            {spend(tier(most, 0, 1)), []int64{most - 1, 1}, []int{0, 1}, []int64{most - 2, 1}},
		"one below MaxGross":                     {spend(tier(most, 0, 1)), []int64{most - 2, 1}, []int{0, 1}, []int64{most - 2, 1}},
		"MaxGross off of MaxGross":               {spend(tier(0, 10_000, most)), []int64{most / 2, most / 2}, []int{0, 1}, []int64{0, 0}},
		"MaxGross less 1 off of MaxGross":        {spend(tier(0, 0, most-1)), []int64{most / 2, most / 2}, []int{0, 1}, []int64{0, 1}},
		"a great sum in three":                   {spend(tier(0, 3_333, 1)), []int64{most / 4, most / 4, most / 2}, []int{0, 1, 2}, []int64{most/4 - most/40_000*3_333, most/4 - most/40_000*3_333, most/2 - most/20_000*3_333 - 1}},
	})
}

// A promo that takes nothing off turns nothing, also where it Closes.
func TestNothingTakenOffClosesNothing(t *testing.T) {
	for _, p := range append(eachKind(), percent(10_000), amount(api.MaxPrice), spend(tier(0, 10_000, 5)), count(tier(0, 10_000, 5))) {
		units := append(open(0, 0), open(9)...)
		got, off := cut.Apply(closing(p), units, []int{0, 1})
		if off != 0 || !slices.Equal(got, units) {
			t.Errorf("Apply(%s) to units of 0: %s, %d", told(p), told(got), off)
		}
		if got, off := cut.Apply(closing(p), units, nil); off != 0 || !slices.Equal(got, units) {
			t.Errorf("Apply(%s) to no places: %s, %d", told(p), told(got), off)
		}
		if got, off := cut.Apply(closing(p), nil, nil); off != 0 || len(got) != 0 {
			t.Errorf("Apply(%s) to no units: %s, %d", told(p), told(got), off)
		}
	}
}

// A promo that Closes shuts each of mine, also one of which nothing was taken off, and none beside them.
func TestCloses(t *testing.T) {
	for _, p := range eachKind() {
		units := shut(open(10, 0, 10, 10, 0, 8), 3)
		mine := []int{0, 1, 2}
		left, leftOff := cut.Apply(p, units, mine)
		closed, closedOff := cut.Apply(closing(p), units, mine)
		if leftOff != closedOff || leftOff == 0 {
			t.Errorf("%s: off %d, of one that Closes %d", told(p), leftOff, closedOff)
		}
		for i, u := range units {
			if left[i].Open != u.Open {
				t.Errorf("%s: the unit %d: Open %v", told(p), i, left[i].Open)
			}
			if closed[i].Open != (u.Open && i > 2) {
				t.Errorf("%s, that Closes: the unit %d: Open %v", told(p), i, closed[i].Open)
			}
			if left[i].Net != closed[i].Net || left[i].Line != i || closed[i].Line != i || i > 2 && left[i].Net != u.Net {
				t.Errorf("%s: the unit %d: %+v and %+v", told(p), i, left[i], closed[i])
			}
		}
	}
}

// wrongs is what makes any promo of the four Kinds wrong.
func wrongs() map[string]func(p *api.Promo) {
	return map[string]func(p *api.Promo){
		"no Id":                    func(p *api.Promo) { p.Id = "" },
		"an Id that is no name":    func(p *api.Promo) { p.Id = "A" },
		"a Group that is no name":  func(p *api.Promo) { p.Group = "G" },
		"a Code that is no name":   func(p *api.Promo) { p.Code = "a b" },
		"a Priority below 0":       func(p *api.Promo) { p.Priority = -1 },
		"a Priority above":         func(p *api.Promo) { p.Priority = 1_001 },
		"a Least below 0":          func(p *api.Promo) { p.Least = -1 },
		"a Least above":            func(p *api.Promo) { p.Least = api.MaxGross + 1 },
		"a Scope that falls":       func(p *api.Promo) { p.Scope.Skus = []string{"b", "a"} },
		"a Scope of no name":       func(p *api.Promo) { p.Scope.Categories = []string{""} },
		"a Buy":                    func(p *api.Promo) { p.Buy = 1 },
		"a Get":                    func(p *api.Promo) { p.Get = 1 },
		"a Buy and a Get below 0":  func(p *api.Promo) { p.Buy, p.Get = -1, -1 },
		"Parts":                    func(p *api.Promo) { p.Parts = []api.Part{{Count: 1}} },
		"a Rate below 0":           func(p *api.Promo) { p.Rate = -1 },
		"a Rate above":             func(p *api.Promo) { p.Rate = api.MaxRate + 1 },
		"the greatest Rate":        func(p *api.Promo) { p.Rate = math.MaxInt64 },
		"an Amount below 0":        func(p *api.Promo) { p.Amount = -1 },
		"an Amount above":          func(p *api.Promo) { p.Amount = api.MaxPrice + 1 },
		"the greatest Amount":      func(p *api.Promo) { p.Amount = math.MaxInt64 },
		"Rate and Amount":          func(p *api.Promo) { p.Rate, p.Amount = 5_000, 5 },
		"Rate, Amount and Tiers":   func(p *api.Promo) { p.Rate, p.Amount, p.Tiers = 5_000, 5, []api.Tier{tier(0, 1_000, 3)} },
		"seven Tiers":              func(p *api.Promo) { p.Tiers = seven() },
		"Tiers that fall":          func(p *api.Promo) { p.Tiers = []api.Tier{tier(2, 1_000, 1), tier(0, 1_000, 1)} },
		"Tiers of one Least":       func(p *api.Promo) { p.Tiers = []api.Tier{tier(0, 1_000, 1), tier(0, 1_000, 1)} },
		"a tier from below 0":      func(p *api.Promo) { p.Tiers = []api.Tier{tier(-1, 1_000, 1)} },
		"a tier of nothing behind": func(p *api.Promo) { p.Tiers = []api.Tier{tier(0, 1_000, 1), tier(api.MaxGross, 0, 0)} },
		"a tier of a Rate above":   func(p *api.Promo) { p.Tiers = []api.Tier{tier(0, api.MaxRate+1, 1)} },
		"a tier of a Rate below 0": func(p *api.Promo) { p.Tiers = []api.Tier{tier(0, -1, 5)} },
		"a tier of an Amount below 0": func(p *api.Promo) {
			p.Tiers = []api.Tier{tier(0, 5_000, -1)}
		},
		"a tier of an Amount above": func(p *api.Promo) { p.Tiers = []api.Tier{tier(0, 1, api.MaxGross+1)} },
		"a tier of the greatest":    func(p *api.Promo) { p.Tiers = []api.Tier{tier(0, 1, math.MaxInt64)} },
	}
}

// seven is one tier more than there may be.
func seven() []api.Tier {
	var l []api.Tier
	for i := range int64(7) {
		l = append(l, tier(i, 1_000, 1))
	}
	return l
}

func TestPromosThatAreNotRight(t *testing.T) {
	units, mine := open(100, 50, 30), []int{0, 1}
	for name, turn := range wrongs() {
		for _, p := range eachKind() {
			turn(&p)
			for _, p := range []api.Promo{p, closing(p)} {
				holds(t, p, units, mine)
				if promo.Right(p) {
					t.Errorf("%s: %s is right", name, told(p))
				}
				if got, off := cut.Apply(p, units, mine); off != 0 || !slices.Equal(got, units) {
					t.Errorf("%s: Apply(%s): %s, %d", name, told(p), told(got), off)
				}
			}
		}
	}
	for _, p := range []api.Promo{{}, {Id: "a"}, percent(0), amount(0), spend(), count(), {Id: "a", Rate: 1}, {Id: "a", Amount: 1}, {Id: "a", Tiers: []api.Tier{tier(0, 1_000, 1)}}} {
		if got, off := cut.Apply(p, units, mine); off != 0 || !slices.Equal(got, units) {
			t.Errorf("Apply(%s): %s, %d", told(p), told(got), off)
		}
	}
}

func TestOtherKinds(t *testing.T) {
	units, mine := open(100, 50, 30), []int{0, 1}
	for _, p := range []api.Promo{
		{Id: "a", Kind: api.BuyGet, Buy: 1, Get: 1, Rate: 10_000},
		{Id: "a", Kind: api.BuyGet, Buy: 1, Get: 1, Rate: 10_000, Closes: true},
		{Id: "a", Kind: api.Bundle, Parts: []api.Part{{Count: 1}}},
		{Id: "a", Kind: api.Bundle, Parts: []api.Part{{Count: 1}, {Count: 1}}, Amount: 5, Closes: true},
		{Id: "a", Kind: api.Shipping, Rate: 10_000},
	} {
		if !promo.Right(p) {
			t.Fatalf("%s is not right", told(p))
		}
		if got, off := cut.Apply(p, units, mine); off != 0 || !slices.Equal(got, units) {
			t.Errorf("Apply(%s): %s, %d", told(p), told(got), off)
		}
		holds(t, p, units, mine)
		holds(t, p, units, nil)
	}
	for _, kind := range append(far, 0, 3, 4, 7, 8, 9, 77) {
		for _, p := range eachKind() {
			p.Kind = int(kind)
			if got, off := cut.Apply(p, units, mine); off != 0 || !slices.Equal(got, units) {
				t.Errorf("Apply(%s): %s, %d", told(p), told(got), off)
			}
			holds(t, p, units, mine)
		}
	}
}

// Units and places that may not be stay as they are, however many they are, also where all else would take something off.
func TestUnitsAndPlacesThatMayNotBe(t *testing.T) {
	for name, x := range map[string]struct {
		units []api.Unit
		mine  []int
	}{
		"falling":              {open(100, 50), []int{1, 0}},
		"one twice":            {open(100, 50), []int{0, 0}},
		"one below 0":          {open(100, 50), []int{-1, 0}},
		"one too far":          {open(100, 50), []int{0, 2}},
		"no units":             {nil, []int{0}},
		"one that is shut":     {shut(open(100, 50), 0), []int{0, 1}},
		"a Net below 0":        {open(100, 50, -1), []int{0, 1}},
		"a Net below 0 of one": {open(-1, 50), []int{0, 1}},
		"a Net above":          {open(100, api.MaxGross+1), []int{0}},
		"too much together":    {open(100, api.MaxGross), []int{0}},
		"too many":             {alike(api.MaxUnits+1, 7), []int{0, 1}},
		"far too many":         {alike(2*api.MaxUnits, 7), nil},
	} {
		for _, p := range eachKind() {
			for _, p := range []api.Promo{p, closing(p)} {
				got, off := cut.Apply(p, x.units, x.mine)
				if off != 0 || !slices.Equal(got, x.units) {
					t.Errorf("%s: Apply(%s): %s, %d", name, told(p), told(got), off)
				}
			}
		}
	}
}

// Least, Scope, Group, Code, Id and Priority play no part.
func TestWhatPlaysNoPart(t *testing.T) {
	units, mine := open(100, 50, 30, 7), []int{0, 2, 3}
	for _, p := range eachKind() {
		want, wantOff := cut.Apply(p, units, mine)
		if wantOff == 0 {
			t.Fatalf("Apply(%s) takes nothing off", told(p))
		}
		for name, turn := range map[string]func(p *api.Promo){
			"a Least that is not met": func(p *api.Promo) { p.Least = 138 },
			"a Least of MaxGross":     func(p *api.Promo) { p.Least = api.MaxGross },
			"a Least that is met":     func(p *api.Promo) { p.Least = 1 },
			"a Scope of Skus":         func(p *api.Promo) { p.Scope.Skus = []string{"q", "r"} },
			"a Scope of Categories":   func(p *api.Promo) { p.Scope.Categories = []string{"q"} },
			"a Group":                 func(p *api.Promo) { p.Group = "g" },
			"a Code":                  func(p *api.Promo) { p.Code = "k" },
			"another Id":              func(p *api.Promo) { p.Id = "z-9" },
			"a Priority":              func(p *api.Promo) { p.Priority = 1_000 },
		} {
			p := copied(p)
			turn(&p)
			if got, off := cut.Apply(p, units, mine); off != wantOff || !slices.Equal(got, want) {
				t.Errorf("%s: Apply(%s): %s, %d; want %s, %d", name, told(p), told(got), off, told(want), wantOff)
			}
		}
	}
}

// promos is some right ones of each of the four Kinds.
func promos() []api.Promo {
	l := append(eachKind(), percent(1), percent(3_333), percent(10_000), amount(2), amount(api.MaxPrice))
	for _, tiers := range [][]api.Tier{
		{tier(1, 1_000, 0)},
		{tier(0, 0, 3)},
		{tier(2, 3_333, 1), tier(3, 0, 4)},
		{tier(1, 5_000, 0), tier(2, 1, 0), tier(5, 10_000, api.MaxGross)},
		{tier(0, 1, 0), tier(1, 2, 0), tier(2, 5_000, 1), tier(3, 2_500, 0), tier(4, 0, 1), tier(6, 9_999, 2)},
	} {
		l = append(l, spend(tiers...), count(tiers...))
	}
	for _, p := range slices.Clone(l) {
		l = append(l, closing(p))
	}
	return l
}

func TestAllLittleLists(t *testing.T) {
	all := promos()
	var things []api.Unit
	for _, net := range []int64{0, 1, 2, 5} {
		things = append(things, api.Unit{Net: net, Open: true})
	}
	things = append(things, api.Unit{Net: 3})
	lists(4, things, func(units []api.Unit) {
		for bits := range 1 << len(units) {
			var mine []int
			for place := range units {
				if bits>>place&1 == 1 {
					mine = append(mine, place)
				}
			}
			for _, p := range all {
				holds(t, p, units, mine)
			}
		}
	})
}

// anyPromo is a right one of one of the four Kinds.
func anyPromo(chance *rand.Rand) api.Promo {
	rate := func() int64 { return 1 + chance.Int63n(1+chance.Int63n(api.MaxRate)) }
	p := api.Promo{Id: "a", Closes: chance.Intn(2) == 0}
	switch p.Kind = []int{api.Percent, api.Amount, api.Spend, api.Count}[chance.Intn(4)]; p.Kind {
	case api.Percent:
		p.Rate = rate()
	case api.Amount:
		p.Amount = 1 + chance.Int63n(1+chance.Int63n(api.MaxPrice))
	default:
		least := int64(0)
		step := []int64{3, 50, api.MaxGross / 6}[chance.Intn(3)]
		for range 1 + chance.Intn(6) {
			x := tier(least, rate(), chance.Int63n(1+chance.Int63n(step)))
			if chance.Intn(3) == 0 {
				x.Rate, x.Amount = 0, x.Amount+1
			}
			p.Tiers = append(p.Tiers, x)
			least += 1 + chance.Int63n(step)
		}
	}
	return p
}

// anyUnits is some units that may be, and some places of them.
func anyUnits(chance *rand.Rand) ([]api.Unit, []int) {
	n := chance.Intn(30)
	most := []int64{3, 100, 100_000, api.MaxGross / 30}[chance.Intn(4)]
	units, mine := make([]api.Unit, 0, n), []int(nil)
	for i := range n {
		u := api.Unit{Line: i/3 - 4, Net: chance.Int63n(most + 1), Open: chance.Intn(5) > 0}
		units = append(units, u)
		if u.Open && chance.Intn(3) > 0 {
			mine = append(mine, i)
		}
	}
	return units, mine
}

func TestAnyLists(t *testing.T) {
	chance := rand.New(rand.NewSource(1))
	for range 20_000 {
		units, mine := anyUnits(chance)
		holds(t, anyPromo(chance), units, mine)
	}
}

// Nets less what is taken off are the Nets behind, none of which is below 0; what is not mine is as it was; and what is told may be asked again.
func TestNetsLessWhatIsTakenOffAreTheNetsBehind(t *testing.T) {
	chance := rand.New(rand.NewSource(2))
	for range 5_000 {
		units, mine := anyUnits(chance)
		for range 4 {
			p := anyPromo(chance)
			behind, off := cut.Apply(p, units, mine)
			if len(behind) != len(units) || off < 0 {
				t.Fatalf("Apply(%s, %s, %v): %d units, %d", told(p), told(units), mine, len(behind), off)
			}
			left, isMine := off, make(map[int]bool)
			for _, place := range mine {
				isMine[place] = true
			}
			for i, u := range behind {
				left -= units[i].Net - u.Net
				if u.Net < 0 || u.Net > units[i].Net || u.Line != units[i].Line || !isMine[i] && u != units[i] {
					t.Fatalf("Apply(%s, %s, %v): the unit %d is %+v", told(p), told(units), mine, i, u)
				}
				if isMine[i] && u.Open == (p.Closes && off > 0) {
					t.Fatalf("Apply(%s, %s, %v): the unit %d is %+v", told(p), told(units), mine, i, u)
				}
			}
			if left != 0 {
				t.Fatalf("Apply(%s, %s, %v): %s, %d", told(p), told(units), mine, told(behind), off)
			}
			if p.Closes && off > 0 {
				mine = nil
			}
			if !cut.May(behind, mine) {
				t.Fatalf("Apply(%s, %s, %v): %s may not be", told(p), told(units), mine, told(behind))
			}
			units = behind
		}
	}
}

// As many units as may be, and one more.
func TestOfMaxUnits(t *testing.T) {
	for _, p := range []api.Promo{percent(3_333), amount(5), spend(tier(1, 3_333, 7)), count(tier(api.MaxUnits-1, 1, 0), tier(api.MaxUnits, 3_333, 7)), closing(spend(tier(0, 0, 1)))} {
		units := alike(api.MaxUnits, api.MaxGross/api.MaxUnits)
		units[77].Net, units[78].Net = 0, 2*units[78].Net
		mine := places(api.MaxUnits)
		holds(t, p, units, mine)
		holds(t, p, units, mine[1:])
		holds(t, p, shut(units, 500), append(slices.Clone(mine[:500]), mine[501:]...))
		if _, off := cut.Apply(p, units, mine); off == 0 {
			t.Errorf("Apply(%s) takes nothing off of MaxUnits", told(p))
		}
		more := append(alike(1, 0), units...)
		if got, off := cut.Apply(p, more, mine); off != 0 || !slices.Equal(got, more) {
			t.Errorf("Apply(%s) takes %d off of one unit more", told(p), off)
		}
	}
}

// What is handed in or out is written to.

// roomy is l with room behind its end, filled with that.
func roomy[T any](l []T, room ...T) []T {
	return append(slices.Clip(slices.Clone(l)), room...)[:len(l)]
}

// What is handed in stays, with the room behind its end (R3); and what stands in that room plays no part.
func TestTheRoomBehindLists(t *testing.T) {
	for _, p := range append(promos(), wrongTiers(), api.Promo{Id: "b", Kind: api.Bundle, Parts: []api.Part{{Count: 1}}}) {
		for _, units := range [][]api.Unit{nil, open(9), open(60, 50, 0), shut(open(60, 50, 40), 1), open(-1, 5, 5), open(api.MaxGross, 5, 1)} {
			for _, mine := range [][]int{nil, {0}, {0, 2}, {2, 0}, {0, 1, 2}} {
				p := copied(p)
				p.Tiers = roomy(p.Tiers, tier(0, 10_000, 9), tier(1, -1, -1))
				p.Parts = roomy(p.Parts, api.Part{Count: -1})
				p.Scope.Skus = roomy([]string{"a"}, "z", "")
				p.Scope.Categories = roomy([]string{"b"}, "y", "")
				if p.Kind == api.Bundle {
					p.Scope = api.Scope{Skus: roomy(nil, "z"), Categories: roomy(nil, "y")}
				}
				given, of := roomy(units, open(7, -1, api.MaxGross)...), roomy(mine, 1, 0, 99)
				tiers, parts := slices.Clone(p.Tiers[:cap(p.Tiers)]), slices.Clone(p.Parts[:cap(p.Parts)])
				skus, categories := slices.Clone(p.Scope.Skus[:cap(p.Scope.Skus)]), slices.Clone(p.Scope.Categories[:cap(p.Scope.Categories)])
				givenWere, ofWere := slices.Clone(given[:cap(given)]), slices.Clone(of[:cap(of)])
				holds(t, p, given, of)
				_, _ = cut.Reached(p.Tiers, 5)
				out, _ := cut.Apply(p, given, of)
				_ = append(out, api.Unit{Line: -1})
				if !slices.Equal(given[:cap(given)], givenWere) || !slices.Equal(of[:cap(of)], ofWere) {
					t.Fatalf("%s, %s, %v: what was handed in is another, or the room behind an end", told(p), told(units), mine)
				}
				if !slices.Equal(p.Tiers[:cap(p.Tiers)], tiers) || !reflect.DeepEqual(p.Parts[:cap(p.Parts)], parts) {
					t.Fatalf("%s: its Tiers or Parts are others, or the room behind an end", told(p))
				}
				if !slices.Equal(p.Scope.Skus[:cap(p.Scope.Skus)], skus) || !slices.Equal(p.Scope.Categories[:cap(p.Scope.Categories)], categories) {
					t.Fatalf("%s: its Scope is another, or the room behind an end", told(p))
				}
			}
		}
	}
}

// wrongTiers is a promo that is not right by its Tiers alone.
func wrongTiers() api.Promo { return spend(tier(5, 1, 1), tier(0, 1, 1)) }

// Lists of one memory, of which one is longer.
func TestListsOfOneMemory(t *testing.T) {
	units, mine := open(9, 5, 7, 1), []int{0, 1, 2, 3}
	tiers := []api.Tier{tier(1, 1_000, 0), tier(3, 5_000, 1), tier(4, 0, 5)}
	for from := range len(units) + 1 {
		for to := from; to <= len(units); to++ {
			for n := range len(mine) + 1 {
				for k := range len(tiers) {
					holds(t, spend(tiers[:k+1]...), units[from:to], mine[:n])
					holds(t, count(tiers[k:]...), units[from:to:to], mine[n:])
				}
			}
		}
	}
}

// What is handed out is new memory, also where nothing was taken off: who writes into it, or into the room behind its end, changes nothing that was handed in, and nothing that is told later (R3).
func TestWhatIsHandedOutIsNewMemory(t *testing.T) {
	for _, p := range append(promos(), wrongTiers(), api.Promo{}, api.Promo{Id: "b", Kind: api.BuyGet, Buy: 1, Get: 1, Rate: 1}) {
		for _, mine := range [][]int{nil, {0}, {0, 1, 2}, {2, 1}, {3}, {-1}, {0, 9}} {
			for _, n := range []int{0, 1, 4} {
				all := shut(open(60, 50, 3, 4, 8, 9), 3)
				units := all[:n]
				were := slices.Clone(all)
				got, off := cut.Apply(p, units, mine)
				again, _ := cut.Apply(p, units, mine)
				want := slices.Clone(again)
				for i := range got[:cap(got)] {
					got[:cap(got)][i] = api.Unit{Line: -1, Net: -1}
				}
				_ = append(got, api.Unit{Line: -2})
				if !slices.Equal(all, were) {
					t.Fatalf("who writes into what %s told changes what was handed in", told(p))
				}
				if !slices.Equal(again, want) {
					t.Fatalf("who writes into what %s told changes what was told beside it", told(p))
				}
				if later, laterOff := cut.Apply(p, units, mine); !slices.Equal(later, want) || laterOff != off {
					t.Fatalf("who writes into what %s told changes what is told later", told(p))
				}
			}
		}
	}
}

// What is handed in is not kept: who writes into it later changes nothing that was told (R3).
func TestWhatIsHandedInIsNotKept(t *testing.T) {
	for _, p := range promos() {
		for _, mine := range [][]int{nil, {0}, {0, 1, 2}, {2, 1}} {
			p, units, mine := copied(p), open(60, 50, 3), slices.Clone(mine)
			got, _ := cut.Apply(p, units, mine)
			want := slices.Clone(got)
			reachedTier, is := cut.Reached(p.Tiers, 5)
			wantTier := reachedTier
			for i := range p.Tiers {
				p.Tiers[i] = tier(-1, -1, -1)
			}
			for i := range units {
				units[i] = api.Unit{Line: 8, Net: 8}
			}
			for i := range mine {
				mine[i] = 7
			}
			if !slices.Equal(got, want) || reachedTier != wantTier || is != (len(p.Tiers) > 0) {
				t.Fatalf("%s: who writes into what was handed in changes what was told", told(p))
			}
			holds(t, p, units, mine)
		}
	}
}

// What was asked of others plays no part, and asked again the same is told (R2).
func TestAskedAgain(t *testing.T) {
	all := append(promos(), wrongTiers(), api.Promo{})
	for range 3 {
		for _, p := range all {
			holds(t, p, open(60, 50, 3), []int{0, 2})
			holds(t, p, open(3, -1), []int{0})
			holds(t, p, nil, nil)
		}
		slices.Reverse(all)
	}
}

// Asked by many at one time, of the same lists, all are told the same.
func TestAskedAtOneTime(t *testing.T) {
	p, units, mine := closing(spend(tier(100, 0, 10))), open(60, 50), []int{0, 1}
	want := shut(open(55, 45), 0, 1)
	var all sync.WaitGroup
	for range 8 {
		all.Go(func() {
			for range 100 {
				got, off := cut.Apply(p, units, mine)
				reachedTier, is := cut.Reached(p.Tiers, 110)
				if !slices.Equal(got, want) || off != 10 || !cut.May(units, mine) || !is || reachedTier != p.Tiers[0] {
					t.Error("asked at one time with others")
				}
			}
		})
	}
	all.Wait()
}

// Of very many things each call ends, and soon (R1).
func TestOfVeryMany(t *testing.T) {
	const n = 1_000_000
	units, mine := make([]api.Unit, n), places(n)
	if cut.May(units, mine) || cut.May(open(1, 2), mine) || cut.May(nil, mine) {
		t.Error("May of very many")
	}
	for _, p := range eachKind() {
		if got, off := cut.Apply(p, units, mine); off != 0 || !slices.Equal(got, units) {
			t.Errorf("Apply(%s) to very many units: %d", told(p), off)
		}
		if got, off := cut.Apply(p, open(1, 2), mine); off != 0 || !slices.Equal(got, open(1, 2)) {
			t.Errorf("Apply(%s) to very many places: %s, %d", told(p), told(got), off)
		}
	}
	tiers := slices.Repeat([]api.Tier{tier(9, 1, 1)}, n)
	if _, is := cut.Reached(tiers, 8); is {
		t.Error("Reached of very many tiers")
	}
	if got, off := cut.Apply(spend(tiers...), open(60, 50), []int{0}); off != 0 || !slices.Equal(got, open(60, 50)) {
		t.Errorf("Apply of very many tiers: %s, %d", told(got), off)
	}
}
