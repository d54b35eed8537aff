package basket_test

import (
	"fmt"
	"math"
	"math/big"
	"math/rand"
	"slices"
	"strconv"
	"strings"
	"sync"
	"testing"

	"haberdash/api"
	"haberdash/basket"
)

// The chapter's words once more, with the limits as numbers.

// seek is the first of items with that Sku, sought from the last to the first.
func seek(items []api.Item, sku string) (api.Item, bool) {
	var out api.Item
	is := false
	for i := len(items) - 1; i >= 0; i-- {
		if items[i].Sku == sku {
			out, is = items[i], true
		}
	}
	return out, is
}

// sums is all Qty together, and all Qty times Price, in numbers without an end.
func sums(l []api.Line) (units, gross *big.Int) {
	units, gross = new(big.Int), new(big.Int)
	for _, x := range l {
		qty := big.NewInt(int64(x.Qty))
		units.Add(units, qty)
		gross.Add(gross, qty.Mul(qty, big.NewInt(x.Price)))
	}
	return units, gross
}

// check goes through what is said of Check from the first word to the last.
func check(items []api.Item, l []api.Line) api.Errno {
	if len(l) > 1_000 {
		return api.ErrFull
	}
	for _, x := range l {
		if _, is := seek(items, x.Sku); !is {
			return api.ErrNone
		}
		if x.Qty < 0 || x.Qty > 100_000 || x.Price < 0 || x.Price > 1_000_000_000 {
			return api.ErrArg
		}
	}
	units, gross := sums(l)
	if units.Cmp(big.NewInt(100_000)) > 0 || gross.Cmp(big.NewInt(10_000_000_000_000)) > 0 {
		return api.ErrRange
	}
	return api.OK
}

// mayBe is Check, whatever the items: each Sku has one.
func mayBe(l []api.Line) bool {
	if len(l) > 1_000 {
		return false
	}
	var items []api.Item
	seen := map[string]bool{}
	for _, x := range l {
		if !seen[x.Sku] {
			seen[x.Sku] = true
			items = append(items, api.Item{Sku: x.Sku})
		}
	}
	return check(items, l) == api.OK
}

func gross(l []api.Line) int64 {
	if !mayBe(l) {
		return 0
	}
	_, sum := sums(l)
	return sum.Int64()
}

func units(l []api.Line) []api.Unit {
	var out []api.Unit
	if !mayBe(l) {
		return out
	}
	for place, x := range l {
		for n := 0; n < x.Qty; n++ {
			out = append(out, api.Unit{Line: place, Net: x.Price, Open: true})
		}
	}
	return out
}

func itemsOf(items []api.Item, l []api.Line) []api.Item {
	var out []api.Item
	for _, x := range l {
		item, is := seek(items, x.Sku)
		if !is {
			return nil
		}
		out = append(out, item)
	}
	return out
}

// What the tests are made of.

func item(sku, category string, price int64, final bool) api.Item {
	return api.Item{Sku: sku, Category: category, Price: price, Final: final}
}

func line(sku string, qty int, price int64) api.Line {
	return api.Line{Sku: sku, Qty: qty, Price: price}
}

// shop is items that rise, but for the last, which are sold by no right list: one of a Sku that is there, and one of none.
func shop() []api.Item {
	return []api.Item{item("cup", "pots", 300, false), item("jam", "food", 250, true), item("tea", "food", 450, false), item("jam", "pots", 9, false), item("", "none", 1, false)}
}

// sold is n items that rise, with room for other Skus between each two.
func sold(n int) []api.Item {
	l := make([]api.Item, 0, n)
	for i := range n {
		l = append(l, item(sku(2*i+1), "c", int64(i), i%2 == 0))
	}
	return l
}

// sku is a name that rises with n.
func sku(n int) string {
	digits := strconv.Itoa(n)
	return "n-" + strings.Repeat("0", 9-len(digits)) + digits
}

// many is n lines of "cup", with nothing in them.
func many(n int) []api.Line { return slices.Repeat([]api.Line{line("cup", 0, 0)}, n) }

// with is l with that line at that place.
func with(l []api.Line, place int, x api.Line) []api.Line {
	l = slices.Clone(l)
	l[place] = x
	return l
}

// lists calls f with each list of up to n of those things, a new one each time.
func lists[T any](n int, things []T, f func([]T)) {
	var longer func(l []T)
	longer = func(l []T) {
		f(slices.Clone(l))
		if len(l) == n {
			return
		}
		for _, x := range things {
			longer(append(l, x))
		}
	}
	longer(make([]T, 0, n))
}

// told is a thing as one line. Of a long one its beginning is enough.
func told(x any) string {
	s := fmt.Sprintf("%+v", x)
	return s[:min(len(s), 400)]
}

// holds holds all calls against their words, and what is handed in against what it was.
func holds(t *testing.T, items []api.Item, l []api.Line) {
	t.Helper()
	itemsWere, were := slices.Clone(items), slices.Clone(l)
	if got, want := basket.Check(items, l), check(itemsWere, were); got != want {
		t.Fatalf("Check(%s, %s): %d, want %d", told(itemsWere), told(were), got, want)
	}
	if got, want := basket.Gross(l), gross(were); got != want {
		t.Fatalf("Gross(%s): %d, want %d", told(were), got, want)
	}
	if got, want := basket.Units(l), units(were); !slices.Equal(got, want) {
		t.Fatalf("Units(%s): %s, want %s", told(were), told(got), told(want))
	}
	if got, want := basket.Items(items, l), itemsOf(itemsWere, were); !slices.Equal(got, want) {
		t.Fatalf("Items(%s, %s): %s, want %s", told(itemsWere), told(were), told(got), told(want))
	}
	if !slices.Equal(items, itemsWere) || !slices.Equal(l, were) {
		t.Fatalf("of %s and %s was made %s and %s", told(itemsWere), told(were), told(items), told(l))
	}
}

// far is numbers that an int64 and an int hold and that are no Qty and no Price, also where one of fewer bits would take them for one.
var far = []int64{math.MinInt64, math.MinInt64 + 1, math.MinInt64 + 5, -1 << 32, -1<<32 + 1, -1<<32 + 5, math.MinInt32, -100_001, -2, -1, 1 << 32, 1<<32 + 1, 1<<32 + 5, 1 << 48, 1<<62 + 1, math.MaxInt64 - 1, math.MaxInt64}

// P14.1: Check

func TestCheck(t *testing.T) {
	const most = api.MaxUnits
	all := api.MaxGross / api.MaxPrice // how many units of MaxPrice there may be
	for name, x := range map[string]struct {
		l    []api.Line
		want api.Errno
	}{
		"no list":                            {nil, api.OK},
		"no lines":                           {[]api.Line{}, api.OK},
		"the example":                        {[]api.Line{line("cup", 2, 5), line("tea", 1, 7)}, api.OK},
		"one line":                           {[]api.Line{line("cup", 1, 300)}, api.OK},
		"the item's Price plays no part":     {[]api.Line{line("cup", 1, 299)}, api.OK},
		"what is Final is sold":              {[]api.Line{line("jam", 1, 250)}, api.OK},
		"the first item's Sku":               {[]api.Line{line("cup", 1, 1)}, api.OK},
		"the last item's Sku":                {[]api.Line{line("tea", 1, 1)}, api.OK},
		"lines that fall":                    {[]api.Line{line("tea", 1, 1), line("cup", 1, 1)}, api.OK},
		"two lines of one Sku":               {[]api.Line{line("cup", 1, 1), line("cup", 1, 1)}, api.OK},
		"one Sku at two Prices":              {[]api.Line{line("cup", 1, 1), line("cup", 1, 2)}, api.OK},
		"a Sku that is not there":            {[]api.Line{line("pan", 1, 1)}, api.ErrNone},
		"a Sku below all":                    {[]api.Line{line("a", 1, 1)}, api.ErrNone},
		"a Sku above all":                    {[]api.Line{line("z", 1, 1)}, api.ErrNone},
		"the beginning of a Sku":             {[]api.Line{line("cu", 1, 1)}, api.ErrNone},
		"a Sku that goes on":                 {[]api.Line{line("cup-", 1, 1)}, api.ErrNone},
		"a Sku of great letters":             {[]api.Line{line("CUP", 1, 1)}, api.ErrNone},
		"a Sku with a nought":                {[]api.Line{line("cup\x00", 1, 1)}, api.ErrNone},
		"a Category":                         {[]api.Line{line("pots", 1, 1)}, api.ErrNone},
		"an empty Sku":                       {[]api.Line{line("", 1, 1)}, api.ErrNone},
		"a line of nothing":                  {[]api.Line{{}}, api.ErrNone},
		"a Sku that is not there, of no Qty": {[]api.Line{line("pan", 0, 0)}, api.ErrNone},
		"the last line's Sku is not there":   {[]api.Line{line("cup", 1, 1), line("tea", 1, 1), line("pan", 1, 1)}, api.ErrNone},
		"a Qty of 0":                         {[]api.Line{line("cup", 0, 1)}, api.OK},
		"a Qty of -1":                        {[]api.Line{line("cup", -1, 1)}, api.ErrArg},
		"a Qty of MaxUnits":                  {[]api.Line{line("cup", most, 1)}, api.OK},
		"a Qty of MaxUnits less 1":           {[]api.Line{line("cup", most-1, 1)}, api.OK},
		"a Qty of one more":                  {[]api.Line{line("cup", most+1, 1)}, api.ErrArg},
		"a Qty of one more, of Price 0":      {[]api.Line{line("cup", most+1, 0)}, api.ErrArg},
		"a Price of 0":                       {[]api.Line{line("cup", 1, 0)}, api.OK},
		"a Price of -1":                      {[]api.Line{line("cup", 1, -1)}, api.ErrArg},
		"a Price of -1, of no Qty":           {[]api.Line{line("cup", 0, -1)}, api.ErrArg},
		"a Price of MaxPrice":                {[]api.Line{line("cup", 1, api.MaxPrice)}, api.OK},
		"a Price of MaxPrice less 1":         {[]api.Line{line("cup", 1, api.MaxPrice-1)}, api.OK},
		"a Price of one more":                {[]api.Line{line("cup", 1, api.MaxPrice+1)}, api.ErrArg},
		"a Price of one more, of no Qty":     {[]api.Line{line("cup", 0, api.MaxPrice+1)}, api.ErrArg},
		"Qty and Price below 0":              {[]api.Line{line("cup", -1, -1)}, api.ErrArg},
		"a wrong line that has no item":      {[]api.Line{line("pan", -1, -1)}, api.ErrNone},
		"too much of what has no item":       {[]api.Line{line("pan", most, api.MaxPrice)}, api.ErrNone},
		"a wrong line, one without an item":  {[]api.Line{line("cup", -1, 1), line("pan", 1, 1)}, api.ErrArg},
		"one without an item, a wrong line":  {[]api.Line{line("pan", 1, 1), line("cup", -1, 1)}, api.ErrNone},
		"MaxUnits and one more":              {[]api.Line{line("cup", most, 1), line("tea", 1, 1)}, api.ErrRange},
		"one, and MaxUnits":                  {[]api.Line{line("cup", 1, 1), line("tea", most, 1)}, api.ErrRange},
		"MaxUnits and one more, for nothing": {[]api.Line{line("cup", most, 0), line("tea", 1, 0)}, api.ErrRange},
		"MaxUnits, and none":                 {[]api.Line{line("cup", most, 1), line("tea", 0, 1)}, api.OK},
		"MaxUnits in two lines":              {[]api.Line{line("cup", most-1, 1), line("cup", 1, 1)}, api.OK},
		"MaxGross":                           {[]api.Line{line("cup", all, api.MaxPrice)}, api.OK},
		"MaxGross of MaxUnits":               {[]api.Line{line("cup", most, api.MaxGross/most)}, api.OK},
		"MaxGross and 1":                     {[]api.Line{line("cup", all, api.MaxPrice), line("tea", 1, 1)}, api.ErrRange},
		"1 and MaxGross":                     {[]api.Line{line("tea", 1, 1), line("cup", all, api.MaxPrice)}, api.ErrRange},
		"MaxGross, and a Price of no Qty":    {[]api.Line{line("cup", all, api.MaxPrice), line("tea", 0, api.MaxPrice)}, api.OK},
		"MaxGross, and a unit for nothing":   {[]api.Line{line("cup", all, api.MaxPrice), line("tea", 1, 0)}, api.OK},
		"a line above MaxGross":              {[]api.Line{line("cup", all+1, api.MaxPrice)}, api.ErrRange},
		"a line of MaxMoney":                 {[]api.Line{line("cup", most, api.MaxPrice)}, api.ErrRange},
		"a line above, each unit 1 more":     {[]api.Line{line("cup", most, api.MaxGross/most+1)}, api.ErrRange},
		"too many, then a wrong line":        {[]api.Line{line("cup", most, 1), line("cup", 1, 1), line("cup", 1, -1)}, api.ErrArg},
		"too many, then one without an item": {[]api.Line{line("cup", most, 1), line("cup", 1, 1), line("pan", 1, 1)}, api.ErrNone},
		"too much, then a wrong line":        {[]api.Line{line("cup", all+1, api.MaxPrice), line("cup", 1, -1)}, api.ErrArg},
		"too much, then one without an item": {[]api.Line{line("cup", all+1, api.MaxPrice), line("pan", 1, 1)}, api.ErrNone},
		"MaxMoney, then a wrong line":        {[]api.Line{line("cup", most, api.MaxPrice), line("cup", most, api.MaxPrice), line("tea", -1, 1)}, api.ErrArg},
		"too many, less by a wrong one":      {[]api.Line{line("cup", most, 1), line("cup", 1, 1), line("cup", -1, 1)}, api.ErrArg},
	} {
		items := shop()[:3]
		if got := basket.Check(items, x.l); got != x.want {
			t.Errorf("%s: Check(%s): %d, want %d", name, told(x.l), got, x.want)
		}
		holds(t, items, x.l)
		if want := min(len(x.l), 1) * int(api.ErrNone); int(basket.Check(nil, x.l)) != want {
			t.Errorf("%s: Check of no items: %d, want %d", name, basket.Check(nil, x.l), want)
		}
		holds(t, nil, x.l)
		holds(t, shop(), x.l)
	}
}

// Of a right list, and of any other one.
func TestCheckAsksAllItems(t *testing.T) {
	items := sold(api.MaxItems)
	falling := slices.Clone(items)
	slices.Reverse(falling)
	for i := range 2*api.MaxItems + 2 {
		want := api.ErrNone
		if i%2 == 1 && i < 2*api.MaxItems {
			want = api.OK
		}
		l := []api.Line{line(sku(i), 1, 1)}
		for _, items := range [][]api.Item{items, falling, append(falling, items...)} {
			if got := basket.Check(items, l); got != want {
				t.Fatalf("Check of the Sku %s: %d, want %d", sku(i), got, want)
			}
			if got := basket.Items(items, l); (len(got) == 1) != (want == api.OK) {
				t.Fatalf("Items of the Sku %s: %s", sku(i), told(got))
			}
		}
	}
	all := make([]api.Line, 0, api.MaxLines)
	for i := range api.MaxLines {
		all = append(all, line(items[i*7%api.MaxItems].Sku, 1, int64(i)))
	}
	holds(t, items, all)
	holds(t, falling, all)
	if basket.Check(items, all) != api.OK || basket.Check(items[1:], all) != api.ErrNone || basket.Check(items[:api.MaxItems-1], all) != api.ErrNone {
		t.Error("Check of a line of each item, twice")
	}
}

// An item that Check takes for one need not be right: its Sku alone is asked.
func TestCheckAsksForSkusAlone(t *testing.T) {
	for _, x := range []api.Item{{}, item("", "x", 1, false), item("A", "", -1, true), item("a b", "é", math.MaxInt64, false), item("é", "", math.MinInt64, true), item(strings.Repeat("a", 100), "x", 1, false), item("\xff", "\x00", 1, false)} {
		items := []api.Item{item("m", "x", 1, false), x, item("a", "x", 1, false)}
		l := []api.Line{line(x.Sku, 3, 4), line("a", 1, 1), line("m", 1, 1)}
		if got := basket.Check(items, l); got != api.OK {
			t.Errorf("Check of the Sku %q: %d", x.Sku, got)
		}
		if got := basket.Items(items, l); !slices.Equal(got, []api.Item{x, items[2], items[0]}) {
			t.Errorf("Items of the Sku %q: %s", x.Sku, told(got))
		}
		holds(t, items, l)
	}
}

func TestCheckOfEachNumberOfLines(t *testing.T) {
	items := shop()[:3]
	for _, n := range []int{0, 1, 2, 999, 1_000, 1_001, 1_002, 2_000, 65_536, 65_537, 200_000} {
		want := api.OK
		if n > 1_000 {
			want = api.ErrFull
		}
		l := many(n)
		if got := basket.Check(items, l); got != want {
			t.Errorf("Check of %d lines: %d, want %d", n, got, want)
		}
		if n == 0 {
			continue
		}
		for _, x := range []struct {
			line  api.Line
			fewer api.Errno
			gross int64
		}{
			{line("cup", 2, 5), api.OK, 10},
			{line("pan", 2, 5), api.ErrNone, 10},
			{line("cup", -1, 5), api.ErrArg, 0},
			{line("cup", 1, -5), api.ErrArg, 0},
			{line("cup", 100_000, 1_000_000_000), api.ErrRange, 0},
		} {
			for _, place := range []int{0, n / 2, n - 1} {
				l := with(l, place, x.line)
				want, sum := x.fewer, x.gross
				if n > 1_000 { // what there is too much of counts before what is wrong
					want, sum = api.ErrFull, 0
				}
				if got := basket.Check(items, l); got != want {
					t.Errorf("Check of %d lines, one of them %s: %d, want %d", n, told(x.line), got, want)
				}
				if got := basket.Gross(l); got != sum {
					t.Errorf("Gross of %d lines, one of them %s: %d, want %d", n, told(x.line), got, sum)
				}
				if got := basket.Units(l); len(got) != int(sum/5) {
					t.Errorf("Units of %d lines, one of them %s: %d", n, told(x.line), len(got))
				}
			}
		}
	}
}

// Each number near the ends of what may be, and far beyond them, at each place of three lines.
func TestCheckOfEachNumber(t *testing.T) {
	items := shop()[:3]
	right := []api.Line{line("tea", 1, 450), line("cup", 2, 300), line("tea", 3, 5)}
	for _, x := range append(far, 0, 1, 2, api.MaxUnits-9, api.MaxUnits-6, api.MaxUnits-5, api.MaxUnits-4, api.MaxUnits-3, api.MaxUnits-2, api.MaxUnits-1, api.MaxUnits, api.MaxUnits+1, api.MaxPrice-1, api.MaxPrice, api.MaxPrice+1, api.MaxGross, api.MaxMoney, api.MaxMoney+1) {
		for place := range right {
			l := slices.Clone(right)
			l[place].Qty = int(x)
			holds(t, items, l)
			holds(t, items, l[place:place+1])
			wrong := x < 0 || x > 100_000
			if got := basket.Check(items, l); (got == api.ErrArg) != wrong {
				t.Errorf("Check of a Qty of %d: %d", x, got)
			}
			l = slices.Clone(right)
			l[place].Price = x
			holds(t, items, l)
			wrong = x < 0 || x > 1_000_000_000
			if got := basket.Check(items, l); (got == api.ErrArg) != wrong || !wrong && got != api.OK {
				t.Errorf("Check of a Price of %d: %d", x, got)
			}
			l[place].Qty = 0 // of no unit the Price may still be wrong
			holds(t, items, l)
			if got := basket.Check(items, l); (got == api.ErrArg) != wrong {
				t.Errorf("Check of a Price of %d of no unit: %d", x, got)
			}
		}
	}
	for _, qty := range far {
		for _, price := range append(far, 0, 1) { // also those whose product, or sum, would go round to what may be
			holds(t, items, []api.Line{line("cup", int(qty), price)})
			holds(t, items, []api.Line{line("cup", int(qty), price), line("cup", int(-qty), price), line("cup", 1, -price)})
			if got := basket.Check(items, []api.Line{line("cup", int(qty), price), line("cup", int(qty), price)}); got != api.ErrArg {
				t.Errorf("Check of Qty %d and Price %d: %d", qty, price, got)
			}
		}
	}
}

// wrongs is each way in which a line may be wrong, and what Check tells of it.
func wrongs() map[string]struct {
	line api.Line
	want api.Errno
} {
	type wrong = struct {
		line api.Line
		want api.Errno
	}
	return map[string]wrong{
		"no item":             {line("pan", 1, 1), api.ErrNone},
		"an empty Sku":        {line("", 1, 1), api.ErrNone},
		"no item, wrong else": {line("pan", -1, api.MaxPrice+1), api.ErrNone},
		"a Qty below 0":       {line("cup", -1, 1), api.ErrArg},
		"a Qty above":         {line("cup", api.MaxUnits+1, 1), api.ErrArg},
		"a Price below 0":     {line("cup", 1, -1), api.ErrArg},
		"a Price above":       {line("cup", 1, api.MaxPrice+1), api.ErrArg},
	}
}

// The first line that is wrong counts, whatever stands behind it, and whatever is too much ahead of it.
func TestCheckOfTwoWrongLines(t *testing.T) {
	items := shop()[:3]
	aheads := [][]api.Line{
		nil,
		{line("cup", 1, 1)},
		{line("tea", 0, 0), line("jam", 5, api.MaxPrice)},
		{line("cup", api.MaxUnits, 0), line("tea", 1, 0)},                                  // too many
		{line("cup", 10_000, api.MaxPrice), line("tea", 1, 1)},                             // too much
		{line("cup", api.MaxUnits, api.MaxPrice), line("tea", api.MaxUnits, api.MaxPrice)}, // both
	}
	for first, x := range wrongs() {
		for second, y := range wrongs() {
			for i, ahead := range aheads {
				for k, between := range aheads {
					l := slices.Concat(ahead, []api.Line{x.line}, between, []api.Line{y.line}, ahead)
					if got := basket.Check(items, l); got != x.want {
						t.Errorf("%s ahead of %s (%d, %d): %d, want %d", first, second, i, k, got, x.want)
					}
					holds(t, items, l)
				}
			}
		}
	}
}

// One wrong line at each place of a full list.
func TestCheckOfOneWrongLine(t *testing.T) {
	items := shop()[:3]
	l := make([]api.Line, 0, api.MaxLines)
	for i := range api.MaxLines {
		l = append(l, line(items[i%3].Sku, 2, int64(i)))
	}
	if basket.Check(items, l) != api.OK || basket.Gross(l) != 999_000 || len(basket.Units(l)) != 2_000 {
		t.Fatalf("MaxLines lines: %d, Gross %d, %d units", basket.Check(items, l), basket.Gross(l), len(basket.Units(l)))
	}
	for name, x := range wrongs() {
		for place := range l {
			l := with(l, place, x.line)
			if got := basket.Check(items, l); got != x.want {
				t.Fatalf("%s at %d: %d, want %d", name, place, got, x.want)
			}
			may := x.want == api.ErrNone && x.line.Qty > 0 // what has no item may still be a basket of others
			if may != (basket.Gross(l) > 0) || may != (len(basket.Units(l)) > 0) {
				t.Fatalf("%s at %d: Gross %d, %d units", name, place, basket.Gross(l), len(basket.Units(l)))
			}
			if got := basket.Items(items, l); (len(got) == 0) != (x.want == api.ErrNone) {
				t.Fatalf("%s at %d: %d items", name, place, len(got))
			}
		}
	}
}

// spread is sums of so much over n lines, with more in the first ones.
func spread(total, n int) []int {
	l := make([]int, n)
	for i := range l {
		l[i] = total / n
		if i < total%n {
			l[i]++
		}
	}
	return l
}

// All Qty together MaxUnits, and one more or fewer, in any number of lines.
func TestCheckOfAllUnits(t *testing.T) {
	items := shop()[:3]
	for _, n := range []int{1, 2, 3, 7, 10, 999, 1_000} {
		for _, total := range []int{0, 1, 99_999, 100_000, 100_001, 100_002, 131_072, 200_000, 100_000 * n} {
			for _, price := range []int64{0, 1, 7, 100_000_000, 1_000_000_000} {
				var l []api.Line
				for i, qty := range spread(total, n) {
					l = append(l, line(items[i%3].Sku, qty, price))
				}
				want := api.OK
				if n == 1 && total > 100_000 {
					want = api.ErrArg
				} else if total > 100_000 || int64(total)*price > 10_000_000_000_000 {
					want = api.ErrRange
				}
				backwards := slices.Clone(l)
				slices.Reverse(backwards)
				for _, l := range [][]api.Line{l, backwards} {
					if got := basket.Check(items, l); got != want {
						t.Fatalf("Check of %d units in %d lines at %d: %d, want %d", total, n, price, got, want)
					}
					if got := basket.Units(l); want == api.OK && len(got) != total || want != api.OK && len(got) != 0 {
						t.Fatalf("Units of %d in %d lines at %d: %d", total, n, price, len(got))
					}
					if got := basket.Gross(l); want == api.OK && got != int64(total)*price || want != api.OK && got != 0 {
						t.Fatalf("Gross of %d units in %d lines at %d: %d", total, n, price, got)
					}
				}
			}
		}
	}
}

// All money together MaxGross, and one more or less, by the last line or by the first, and in any number of lines.
func TestCheckOfAllMoney(t *testing.T) {
	items := shop()[:3]
	for _, off := range []int64{-1_000_000_000, -2, -1, 0, 1, 2, 1_000_000_000} {
		for _, lines := range []int{1, 2, 3, 10, 999} {
			for _, each := range []int64{1_000_000_000, 999_999_999, 500_000_000, 110_000_001} {
				var l []api.Line
				left := api.MaxGross + off
				for _, qty := range spread(int(left/each), lines) {
					l = append(l, line("tea", qty, each))
				}
				l = append(l, line("cup", 1, left%each))
				want, sum := api.OK, left
				if off > 0 {
					want, sum = api.ErrRange, 0
				}
				backwards := slices.Clone(l)
				slices.Reverse(backwards)
				for _, l := range [][]api.Line{l, backwards} {
					if got := basket.Check(items, l); got != want {
						t.Errorf("Check of MaxGross and %d in %d lines of %d: %d, want %d", off, lines, each, got, want)
					}
					if got := basket.Gross(l); got != sum {
						t.Errorf("Gross of MaxGross and %d in %d lines of %d: %d, want %d", off, lines, each, got, sum)
					}
					if got := basket.Units(l); (len(got) > 0) != (want == api.OK) {
						t.Errorf("Units of MaxGross and %d in %d lines of %d: %d", off, lines, each, len(got))
					}
				}
			}
		}
	}
	most := slices.Repeat([]api.Line{line("cup", api.MaxUnits, api.MaxPrice)}, api.MaxLines)
	for n := range most {
		if got := basket.Check(items, most[:n+1]); got != api.ErrRange || basket.Gross(most[:n+1]) != 0 || len(basket.Units(most[:n+1])) != 0 {
			t.Fatalf("%d lines of as much as a line may be: %d", n+1, got)
		}
	}
}

// P14.1: Gross, and P14.2: Units

func TestGrossAndUnits(t *testing.T) {
	for name, x := range map[string]struct {
		l     []api.Line
		gross int64
		units []api.Unit
	}{
		"no list":                    {nil, 0, nil},
		"no lines":                   {[]api.Line{}, 0, nil},
		"the example":                {[]api.Line{line("a", 2, 5), line("b", 1, 7)}, 17, []api.Unit{{Line: 0, Net: 5, Open: true}, {Line: 0, Net: 5, Open: true}, {Line: 1, Net: 7, Open: true}}},
		"the other way round":        {[]api.Line{line("b", 1, 7), line("a", 2, 5)}, 17, []api.Unit{{Line: 0, Net: 7, Open: true}, {Line: 1, Net: 5, Open: true}, {Line: 1, Net: 5, Open: true}}},
		"one":                        {[]api.Line{line("a", 1, 9)}, 9, []api.Unit{{Line: 0, Net: 9, Open: true}}},
		"for nothing":                {[]api.Line{line("a", 1, 0)}, 0, []api.Unit{{Line: 0, Net: 0, Open: true}}},
		"of no unit":                 {[]api.Line{line("a", 0, 9)}, 0, nil},
		"of no unit at either end":   {[]api.Line{line("a", 0, 9), line("a", 1, 3), line("a", 0, 9)}, 3, []api.Unit{{Line: 1, Net: 3, Open: true}}},
		"of no unit between":         {[]api.Line{line("a", 1, 3), line("a", 0, 9), line("a", 0, 8), line("a", 1, 4)}, 7, []api.Unit{{Line: 0, Net: 3, Open: true}, {Line: 3, Net: 4, Open: true}}},
		"one Sku in two lines":       {[]api.Line{line("a", 1, 3), line("a", 1, 3)}, 6, []api.Unit{{Line: 0, Net: 3, Open: true}, {Line: 1, Net: 3, Open: true}}},
		"Skus that are no names":     {[]api.Line{line("", 1, 3), line("A b", 1, 4), line("\xff", 1, 5)}, 12, []api.Unit{{Line: 0, Net: 3, Open: true}, {Line: 1, Net: 4, Open: true}, {Line: 2, Net: 5, Open: true}}},
		"no Sku at all":              {[]api.Line{{Qty: 1, Price: 2}}, 2, []api.Unit{{Line: 0, Net: 2, Open: true}}},
		"a line of nothing":          {[]api.Line{{}}, 0, nil},
		"a Qty below 0":              {[]api.Line{line("a", 2, 5), line("b", -1, 7)}, 0, nil},
		"a Qty below 0, for nothing": {[]api.Line{line("a", 2, 5), line("b", -1, 0)}, 0, nil},
		"a Qty above":                {[]api.Line{line("a", 2, 5), line("b", api.MaxUnits+1, 0)}, 0, nil},
		"a Price below 0":            {[]api.Line{line("a", 2, 5), line("b", 1, -1)}, 0, nil},
		"a Price below 0, of none":   {[]api.Line{line("a", 2, 5), line("b", 0, -1)}, 0, nil},
		"a Price above":              {[]api.Line{line("a", 2, 5), line("b", 1, api.MaxPrice+1)}, 0, nil},
		"a Price above, of none":     {[]api.Line{line("a", 2, 5), line("b", 0, api.MaxPrice+1)}, 0, nil},
		"the first is wrong":         {[]api.Line{line("b", -1, 7), line("a", 2, 5)}, 0, nil},
		"too many":                   {[]api.Line{line("a", api.MaxUnits, 5), line("b", 1, 7)}, 0, nil},
		"too many, for nothing":      {[]api.Line{line("a", api.MaxUnits, 0), line("b", 1, 0)}, 0, nil},
		"too much":                   {[]api.Line{line("a", 10_000, api.MaxPrice), line("b", 1, 1)}, 0, nil},
		"too much in one":            {[]api.Line{line("a", 10_001, api.MaxPrice)}, 0, nil},
		"too many lines":             {append(many(api.MaxLines), line("a", 2, 5)), 0, nil},
		"MaxLines":                   {append(many(api.MaxLines-1), line("a", 2, 5)), 10, []api.Unit{{Line: 999, Net: 5, Open: true}, {Line: 999, Net: 5, Open: true}}},
	} {
		if got := basket.Gross(x.l); got != x.gross {
			t.Errorf("%s: Gross(%s): %d, want %d", name, told(x.l), got, x.gross)
		}
		if got := basket.Units(x.l); !slices.Equal(got, x.units) {
			t.Errorf("%s: Units(%s): %s, want %s", name, told(x.l), told(got), told(x.units))
		}
		holds(t, shop(), x.l)
	}
}

func TestUnitsOfAsManyAsMayBe(t *testing.T) {
	for _, l := range [][]api.Line{
		{line("a", api.MaxUnits, api.MaxGross/api.MaxUnits)},
		{line("a", 1, 3), line("b", api.MaxUnits-2, 4), line("c", 0, 5), line("d", 1, 6)},
		{line("a", 10_000, api.MaxPrice), line("b", api.MaxUnits-10_000, 0)},
	} {
		if got := basket.Units(l); len(got) != api.MaxUnits || !slices.Equal(got, units(l)) {
			t.Errorf("Units(%s): %d of them", told(l), len(got))
		}
		holds(t, shop(), l)
	}
	if got := basket.Gross([]api.Line{line("", 10_000, api.MaxPrice)}); got != api.MaxGross {
		t.Errorf("Gross of as much as may be: %d", got)
	}
}

// The units' Nets come to Gross; each line has Qty of them, and they stand in order.
func TestNetsComeToGross(t *testing.T) {
	chance := rand.New(rand.NewSource(1))
	for range 2_000 {
		l := make([]api.Line, chance.Intn(20))
		for i := range l {
			l[i] = line(sku(chance.Intn(5)), chance.Intn(6), chance.Int63n(api.MaxPrice+1))
		}
		had := make([]int, len(l))
		sum, last := int64(0), 0
		for _, u := range basket.Units(l) {
			if u.Line < last || !u.Open || u.Net != l[u.Line].Price {
				t.Fatalf("Units(%s): %s behind one of line %d", told(l), told(u), last)
			}
			had[u.Line]++
			sum, last = sum+u.Net, u.Line
		}
		if sum != basket.Gross(l) {
			t.Fatalf("Units(%s) come to %d, Gross is %d", told(l), sum, basket.Gross(l))
		}
		for i, n := range had {
			if n != l[i].Qty {
				t.Fatalf("Units(%s): %d of line %d", told(l), n, i)
			}
		}
	}
}

// Gross and Units are the same whatever the lines are called.
func TestGrossAndUnitsAskNoSku(t *testing.T) {
	chance := rand.New(rand.NewSource(2))
	names := []string{"", "cup", "pan", "A", "é", "\x00", strings.Repeat("a", 1_000)}
	for range 500 {
		l := make([]api.Line, chance.Intn(6))
		for i := range l {
			l[i] = line("cup", chance.Intn(4)-chance.Intn(2)*chance.Intn(2), chance.Int63n(9)-chance.Int63n(2)*chance.Int63n(2))
		}
		other := slices.Clone(l)
		for i := range other {
			other[i].Sku = names[chance.Intn(len(names))]
		}
		if basket.Gross(l) != basket.Gross(other) || !slices.Equal(basket.Units(l), basket.Units(other)) {
			t.Fatalf("%s and %s", told(l), told(other))
		}
		if (basket.Check(shop(), l) == api.OK) != mayBe(l) {
			t.Fatalf("Check(%s): %d", told(l), basket.Check(shop(), l))
		}
	}
}

// P14.2: Items

func TestItems(t *testing.T) {
	s := shop()
	for name, x := range map[string]struct {
		items []api.Item
		l     []api.Line
		want  []api.Item
	}{
		"no lists":                           {nil, nil, nil},
		"no lines":                           {s, nil, nil},
		"no items":                           {nil, []api.Line{line("cup", 1, 1)}, nil},
		"no items, a line of nothing":        {nil, []api.Line{{}}, nil},
		"each":                               {s, []api.Line{line("cup", 1, 1), line("jam", 1, 1), line("tea", 1, 1)}, []api.Item{s[0], s[1], s[2]}},
		"falling":                            {s, []api.Line{line("tea", 1, 1), line("jam", 1, 1), line("cup", 1, 1)}, []api.Item{s[2], s[1], s[0]}},
		"one again and again":                {s, []api.Line{line("tea", 1, 1), line("tea", 2, 2), line("cup", 1, 1), line("tea", 1, 1)}, []api.Item{s[2], s[2], s[0], s[2]}},
		"one that is there twice":            {s, []api.Line{line("jam", 1, 9)}, []api.Item{s[1]}},
		"twice, the later one alone":         {s[2:], []api.Line{line("jam", 1, 9)}, []api.Item{s[3]}},
		"twice, the other way round":         {[]api.Item{s[3], s[1]}, []api.Line{line("jam", 1, 9)}, []api.Item{s[3]}},
		"an empty Sku that is there":         {s, []api.Line{line("", 1, 9)}, []api.Item{s[4]}},
		"an empty Sku that is not there":     {s[:4], []api.Line{line("", 1, 9)}, nil},
		"the first line has none":            {s, []api.Line{line("pan", 1, 1), line("cup", 1, 1), line("tea", 1, 1)}, nil},
		"the second line has none":           {s, []api.Line{line("cup", 1, 1), line("pan", 1, 1), line("tea", 1, 1)}, nil},
		"the last line has none":             {s, []api.Line{line("cup", 1, 1), line("tea", 1, 1), line("pan", 1, 1)}, nil},
		"all lines have none":                {s, []api.Line{line("pan", 1, 1), line("pot", 1, 1)}, nil},
		"a line of no unit has one":          {s, []api.Line{line("cup", 0, 0)}, []api.Item{s[0]}},
		"a line of no unit that has none":    {s, []api.Line{line("cup", 1, 1), line("pan", 0, 0)}, nil},
		"a Qty below 0":                      {s, []api.Line{line("cup", -1, 1), line("tea", math.MinInt, 1)}, []api.Item{s[0], s[2]}},
		"a Qty above":                        {s, []api.Line{line("cup", math.MaxInt, 1)}, []api.Item{s[0]}},
		"a Price below 0":                    {s, []api.Line{line("cup", 1, math.MinInt64)}, []api.Item{s[0]}},
		"a Price above":                      {s, []api.Line{line("cup", 1, math.MaxInt64)}, []api.Item{s[0]}},
		"too many, and too much":             {s, []api.Line{line("cup", api.MaxUnits, api.MaxPrice), line("tea", api.MaxUnits, api.MaxPrice)}, []api.Item{s[0], s[2]}},
		"MaxLines":                           {s, many(api.MaxLines), slices.Repeat(s[:1], api.MaxLines)},
		"one line more":                      {s, many(api.MaxLines + 1), slices.Repeat(s[:1], api.MaxLines+1)},
		"one line more, and that has none":   {s, append(many(api.MaxLines), line("pan", 1, 1)), nil},
		"an item whose all else is wrong":    {[]api.Item{item("a", "A", -1, true)}, []api.Line{line("a", 1, 1)}, []api.Item{item("a", "A", -1, true)}},
		"more items than there may be":       {sold(2 * api.MaxItems), []api.Line{line(sku(1_999), 1, 1), line(sku(1), 1, 1)}, []api.Item{sold(1_000)[999], sold(1)[0]}},
		"what stands behind the one is none": {sold(2 * api.MaxItems), []api.Line{line(sku(1_998), 1, 1)}, nil},
	} {
		if got := basket.Items(x.items, x.l); !slices.Equal(got, x.want) {
			t.Errorf("%s: Items(%s, %s): %s, want %s", name, told(x.items), told(x.l), told(got), told(x.want))
		}
		holds(t, x.items, x.l)
	}
}

// One line that has no item, at each place of lists of many lengths.
func TestItemsOfOneLineWithoutAnItem(t *testing.T) {
	items := sold(9)
	for _, n := range []int{1, 2, 3, 8, 50, 1_000, 1_001} {
		var l []api.Line
		for i := range n {
			l = append(l, line(items[i%9].Sku, 1, 1))
		}
		if got := basket.Items(items, l); !slices.Equal(got, itemsOf(items, l)) || len(got) != n {
			t.Fatalf("Items of %d lines: %s", n, told(got))
		}
		for place := range l {
			if got := basket.Items(items, with(l, place, line(sku(2*place), 1, 1))); len(got) != 0 {
				t.Fatalf("Items of %d lines, of which %d has none: %s", n, place, told(got))
			}
			if got := basket.Items(items, with(l, place, line("q", 1, 1))); len(got) != 0 {
				t.Fatalf("Items of %d lines, of which %d has none: %s", n, place, told(got))
			}
		}
	}
}

// All of it

func TestAllLittleLists(t *testing.T) {
	var all []api.Line
	for _, sku := range []string{"a", "b", ""} {
		all = append(all, line(sku, 0, 5), line(sku, 2, 3), line(sku, -1, 1), line(sku, 1, -1), line(sku, api.MaxUnits, 0), line(sku, 1, api.MaxPrice+1))
	}
	all = append(all, line("c", 1, 1))
	catalogues := [][]api.Item{
		nil,
		{item("a", "x", 1, false)},
		{item("a", "x", 1, false), item("b", "y", 2, true)},
		{item("b", "x", 1, false), item("a", "y", 2, true), item("b", "z", 3, false)},
		{item("", "x", 1, false), item("", "y", 2, false), item("b", "x", 1, false)},
	}
	holdsFew := func(items []api.Item, l []api.Line) { // of what is too much by far nothing need be made
		if len(l) < 3 || gross(l) > 0 {
			holds(t, items, l)
			return
		}
		if got, want := basket.Check(items, l), check(items, l); got != want {
			t.Fatalf("Check(%s, %s): %d, want %d", told(items), told(l), got, want)
		}
	}
	lists(3, all, func(l []api.Line) {
		for _, items := range catalogues {
			holdsFew(items, l)
		}
	})
}

func TestAnyLists(t *testing.T) {
	chance := rand.New(rand.NewSource(3))
	qtys := []int{0, 0, 1, 2, 3, 50, 999, 33_333, 33_334, 50_000, 99_999, 100_000, 100_001, -1}
	prices := []int64{0, 1, 2, 99, 100_000_000, 300_000_000, 999_999_999, 1_000_000_000, 1_000_000_001, -1}
	for range 3_000 {
		items := make([]api.Item, chance.Intn(8))
		for i := range items {
			items[i] = item(sku(chance.Intn(6)), sku(i), chance.Int63n(9), chance.Intn(2) == 0)
		}
		few := 1 + chance.Intn(len(qtys))
		l := make([]api.Line, chance.Intn(7))
		for i := range l {
			l[i] = line(sku(chance.Intn(6)), qtys[chance.Intn(few)], prices[chance.Intn(len(prices)-2*chance.Intn(2))])
		}
		holds(t, items, l)
	}
}

// What is handed in or out is written to.

// roomy is l with room behind its end, filled with that.
func roomy[T any](l []T, room ...T) []T {
	return append(slices.Clip(slices.Clone(l)), room...)[:len(l)]
}

// What is handed in stays, with the room behind its end (R3); and what stands in that room plays no part.
func TestTheRoomBehindLists(t *testing.T) {
	bad := []api.Line{line("cup", 7, 7), line("pan", 1, 1), line("cup", -1, -1), line("tea", api.MaxUnits, api.MaxPrice)}
	for _, l := range [][]api.Line{nil, {line("cup", 2, 5)}, {line("cup", 2, 5), line("tea", 1, 7)}, {line("pan", 1, 1)}, {line("cup", -1, 1)}, many(api.MaxLines), many(api.MaxLines + 1)} {
		for _, items := range [][]api.Item{nil, shop()[:1], shop()[:3], shop()} {
			given, of := roomy(l, bad...), roomy(items, item("pan", "pots", 5, false), item("cup", "x", 6, false))
			wasGiven, wasOf := slices.Clone(given[:cap(given)]), slices.Clone(of[:cap(of)])
			holds(t, of, given)
			_ = append(basket.Units(given), api.Unit{Line: -1})
			_ = append(basket.Items(of, given), item("w", "w", -1, false))
			if !slices.Equal(given[:cap(given)], wasGiven) || !slices.Equal(of[:cap(of)], wasOf) {
				t.Errorf("%s and %s: what was handed in is another, or the room behind an end", told(l), told(items))
			}
		}
	}
}

// Lists of one memory, of which one is longer.
func TestListsOfOneMemory(t *testing.T) {
	l := []api.Line{line("cup", 2, 5), line("jam", 1, 7), line("pan", 1, 1), line("cup", -1, 1)}
	items := shop()
	for from := range len(l) + 1 {
		for to := from; to <= len(l); to++ {
			for n := range len(items) + 1 {
				holds(t, items[:n], l[from:to])
				holds(t, items[n:], l[from:to:to])
			}
		}
	}
}

// What is handed out is new memory: who writes into it, or into the room behind its end, changes nothing that was handed in, and nothing that is told later (R3).
func TestWhatIsHandedOutIsNewMemory(t *testing.T) {
	items, l := shop(), []api.Line{line("cup", 2, 5), line("jam", 1, 7), line("tea", 0, 9), line("cup", 3, 0)}
	itemsWere, were := slices.Clone(items), slices.Clone(l)
	units, again := basket.Units(l), basket.Units(l)
	mine, mineAgain := basket.Items(items, l), basket.Items(items, l)
	wantUnits, wantItems := slices.Clone(again), slices.Clone(mineAgain)
	for i := range units[:cap(units)] {
		units[:cap(units)][i] = api.Unit{Line: -1, Net: -1}
	}
	for i := range mine[:cap(mine)] {
		mine[:cap(mine)][i] = item("w", "w", -1, true)
	}
	_, _ = append(units, api.Unit{Line: -2}), append(mine, item("v", "v", -2, true))
	if !slices.Equal(again, wantUnits) || !slices.Equal(mineAgain, wantItems) {
		t.Error("who writes into what was told changes what was told beside it")
	}
	if !slices.Equal(items, itemsWere) || !slices.Equal(l, were) {
		t.Error("who writes into what was told changes what was handed in")
	}
	if !slices.Equal(basket.Units(l), wantUnits) || !slices.Equal(basket.Items(items, l), wantItems) {
		t.Error("who writes into what was told changes what is told later")
	}
	holds(t, items, l)
}

// Also of one line, of all items in order, and of a full basket there is nothing of one memory.
func TestItemsAreNotThoseThatWereHandedIn(t *testing.T) {
	for _, n := range []int{1, 2, api.MaxItems} {
		items := sold(n)
		was := slices.Clone(items)
		var l []api.Line
		for _, x := range items {
			l = append(l, line(x.Sku, 1, 1))
		}
		got := basket.Items(items, l)
		if !slices.Equal(got, items) {
			t.Fatalf("Items of each of %d: %s", n, told(got))
		}
		for i := range got {
			got[i] = api.Item{}
		}
		if !slices.Equal(items, was) {
			t.Errorf("who writes into Items of each of %d changes the items", n)
		}
	}
}

// What is handed in is not kept: who writes into it later changes nothing that was told (R3).
func TestWhatIsHandedInIsNotKept(t *testing.T) {
	items, l := shop(), []api.Line{line("cup", 2, 5), line("jam", 1, 7)}
	units, mine, sum := basket.Units(l), basket.Items(items, l), basket.Gross(l)
	wantUnits, wantItems := slices.Clone(units), slices.Clone(mine)
	for i := range items {
		items[i] = item("q", "q", -9, false)
	}
	for i := range l {
		l[i] = line("q", 1, 2)
	}
	if !slices.Equal(units, wantUnits) || !slices.Equal(mine, wantItems) || sum != 17 {
		t.Error("who writes into what was handed in changes what was told")
	}
	if basket.Check(items, l) != api.OK || basket.Gross(l) != 4 {
		t.Error("what was written to is asked as it was")
	}
	holds(t, items, l)
}

// What was asked of others plays no part, and asked again the same is told (R2).
func TestAskedAgain(t *testing.T) {
	items := shop()
	asked := [][]api.Line{
		nil, {line("cup", 2, 5), line("tea", 1, 7)}, {line("pan", 1, 1)}, {line("cup", -1, 1)}, many(api.MaxLines + 1),
		{line("cup", api.MaxUnits, 1), line("cup", 1, 1)}, {line("jam", 3, api.MaxPrice)}, {line("", 1, 1)},
	}
	for range 3 {
		for _, l := range asked {
			holds(t, items, l)
			holds(t, items[:3], l)
			holds(t, items[2:], l)
		}
	}
}

// Asked by many at one time, of the same lists, all are told the same.
func TestAskedAtOneTime(t *testing.T) {
	items, l := shop(), []api.Line{line("cup", 2, 5), line("tea", 1, 7)}
	var all sync.WaitGroup
	for range 8 {
		all.Go(func() {
			for range 100 {
				if basket.Check(items, l) != api.OK || basket.Gross(l) != 17 || len(basket.Units(l)) != 3 || !slices.Equal(basket.Items(items, l), []api.Item{items[0], items[2]}) {
					t.Error("asked at one time with others")
				}
			}
		})
	}
	all.Wait()
}

// Of very many things each call ends, and soon (R1).
func TestOfVeryMany(t *testing.T) {
	const n = 200_000
	items, l := make([]api.Item, n), make([]api.Line, n)
	if basket.Check(items, l) != api.ErrFull || basket.Gross(l) != 0 || len(basket.Units(l)) != 0 {
		t.Error("very many lines")
	}
	if got := basket.Items(items, l); !slices.Equal(got, items) {
		t.Errorf("Items of very many lines: %d", len(got))
	}
	if got := basket.Check(items, []api.Line{line("", 1, 1), line("a", 1, 1)}); got != api.ErrNone {
		t.Errorf("Check of very many items: %d", got)
	}
	long := strings.Repeat("a", 1<<20)
	items = []api.Item{{Sku: long}, {Sku: long + "b"}}
	holds(t, items, []api.Line{line(long+"b", 1, 1), line(long, 1, 1)})
}
