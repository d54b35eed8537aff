package rules_test

import (
	"bytes"
	"fmt"
	"math"
	"math/rand"
	"reflect"
	"regexp"
	"slices"
	"strconv"
	"strings"
	"testing"

	"haberdash/api"
	"haberdash/goods"
	"haberdash/promo"
	"haberdash/rules"
)

// The chapter's words once more, with the limits as numbers.

var nameForm = regexp.MustCompile(`\A[-0-9a-z]{1,12}\z`)

// below is the document's word (R6): byte by byte, a beginning is below what goes on.
func below(s, t string) bool { return bytes.Compare([]byte(s), []byte(t)) < 0 }

// namesRise asks each two texts of l whether they rise.
func namesRise(l []string) bool {
	for i, s := range l {
		if !nameForm.MatchString(s) {
			return false
		}
		for _, t := range l[i+1:] {
			if !below(s, t) {
				return false
			}
		}
	}
	return true
}

func zoneNames(l []api.Zone) []string {
	out := make([]string, 0, len(l))
	for _, z := range l {
		out = append(out, z.Name)
	}
	return out
}

func rateNames(l []api.CatRate) []string {
	out := make([]string, 0, len(l))
	for _, r := range l {
		out = append(out, r.Category)
	}
	return out
}

// taxRight goes through what is said of Tax from the first word to the last.
func taxRight(t api.Tax) bool {
	if t.Round != 0 && t.Round != 1 && t.Round != 2 {
		return false
	}
	if len(t.Zones) > 20 || !namesRise(zoneNames(t.Zones)) {
		return false
	}
	for _, z := range t.Zones {
		if len(z.Rates) > 40 || !namesRise(rateNames(z.Rates)) {
			return false
		}
		rates := []int64{z.Rest, z.Ship}
		for _, r := range z.Rates {
			rates = append(rates, r.Rate)
		}
		for _, rate := range rates {
			if rate < 0 || rate > 10_000 {
				return false
			}
		}
	}
	return true
}

// kindsRight asks each kind whether it may be, and how often it stands there.
func kindsRight(l []int) bool {
	for _, kind := range l {
		times := 0
		for _, other := range l {
			if other == kind {
				times++
			}
		}
		if kind < 1 || kind > 9 || times > 1 {
			return false
		}
	}
	return true
}

// restRight asks what is said of Ship and Policy.
func restRight(s api.Ship, p api.Policy) bool {
	if s.Fee < 0 || s.Fee > 1_000_000_000 || s.Free < 0 || s.Free > 10_000_000_000_000 {
		return false
	}
	if p.Window < 0 || p.Window > 100_000 || p.Grace < 0 || p.Grace > 100_000 {
		return false
	}
	if p.Mode != 1 && p.Mode != 2 && p.Mode != 3 {
		return false
	}
	return p.Restock >= 0 && p.Restock <= 10_000 && kindsRight(p.Order) && kindsRight(p.Credit)
}

func right(r api.Rules) bool {
	return goods.Right(r.Items) && promo.All(r.Promos) && taxRight(r.Tax) && restRight(r.Ship, r.Policy)
}

// zone is the first of t's zones of that name, sought from the last to the first.
func zone(t api.Tax, name string) (api.Zone, bool) {
	var out api.Zone
	is := false
	for i := len(t.Zones) - 1; i >= 0; i-- {
		if t.Zones[i].Name == name {
			out, is = copied(t.Zones[i]), true
		}
	}
	return out, is
}

// rate is the first of z's rates of that category, sought from the last to the first.
func rate(z api.Zone, category string) int64 {
	out := z.Rest
	for i := len(z.Rates) - 1; i >= 0; i-- {
		if z.Rates[i].Category == category {
			out = z.Rates[i].Rate
		}
	}
	return out
}

// same is the document's word (R9), of plain things of any kind; nil and an empty list are the same (R3).
func same(a, b any) bool { return sameValue(reflect.ValueOf(a), reflect.ValueOf(b)) }

func sameValue(a, b reflect.Value) bool {
	switch a.Kind() {
	case reflect.Struct:
		for i := range a.NumField() {
			if !sameValue(a.Field(i), b.Field(i)) {
				return false
			}
		}
		return true
	case reflect.Slice:
		if a.Len() != b.Len() {
			return false
		}
		for i := range a.Len() {
			if !sameValue(a.Index(i), b.Index(i)) {
				return false
			}
		}
		return true
	}
	return a.Interface() == b.Interface()
}

// What the tests are made of.

// copied is x in memory of its own, with nothing behind the ends of its lists.
func copied[T any](x T) T { return withRoom(x, 0) }

// withRoom is x in memory of its own, each list with room for so many more behind its end.
func withRoom[T any](x T, room int) T {
	out := reflect.New(reflect.TypeOf(x)).Elem()
	copyValue(out, reflect.ValueOf(x), room)
	return out.Interface().(T)
}

func copyValue(to, from reflect.Value, room int) {
	switch from.Kind() {
	case reflect.Struct:
		for i := range from.NumField() {
			copyValue(to.Field(i), from.Field(i), room)
		}
	case reflect.Slice:
		if from.IsNil() && room == 0 {
			return
		}
		to.Set(reflect.MakeSlice(from.Type(), from.Len(), from.Len()+room))
		for i := range from.Len() {
			copyValue(to.Index(i), from.Index(i), room)
		}
	default:
		to.Set(from)
	}
}

// opened is x in memory of its own, each list as long as its room.
func opened[T any](x T) T {
	out := copied(x)
	openValue(reflect.ValueOf(&out).Elem(), reflect.ValueOf(x))
	return out
}

func openValue(to, from reflect.Value) {
	switch from.Kind() {
	case reflect.Struct:
		for i := range from.NumField() {
			openValue(to.Field(i), from.Field(i))
		}
	case reflect.Slice:
		whole := from.Slice(0, from.Cap())
		to.Set(reflect.MakeSlice(from.Type(), whole.Len(), whole.Len()))
		for i := range whole.Len() {
			openValue(to.Index(i), whole.Index(i))
		}
	default:
		to.Set(from)
	}
}

func item(sku, category string, price int64, final bool) api.Item {
	return api.Item{Sku: sku, Category: category, Price: price, Final: final}
}

func aZone(name string, rest, ship int64, rates ...api.CatRate) api.Zone {
	return api.Zone{Name: name, Rates: rates, Rest: rest, Ship: ship}
}

func aRate(category string, rate int64) api.CatRate {
	return api.CatRate{Category: category, Rate: rate}
}

// rising is n names that rise, with room for others between each two.
func rising(n int) []string {
	l := make([]string, 0, n)
	for i := range n {
		digits := strconv.Itoa(2*i + 1)
		l = append(l, "n-"+strings.Repeat("0", 9-len(digits))+digits)
	}
	return l
}

// zonesOf is zones of those names, right in all else.
func zonesOf(names ...string) []api.Zone {
	l := make([]api.Zone, 0, len(names))
	for i, name := range names {
		l = append(l, aZone(name, int64(i), int64(2*i)))
	}
	return l
}

// ratesOf is rates of those categories, right in all else.
func ratesOf(names ...string) []api.CatRate {
	l := make([]api.CatRate, 0, len(names))
	for i, name := range names {
		l = append(l, aRate(name, int64(3*i)))
	}
	return l
}

// taxOf is a tax of one zone with rates of those categories.
func taxOf(categories ...string) api.Tax {
	return api.Tax{Zones: []api.Zone{aZone("n", 1, 2, ratesOf(categories...)...)}}
}

// taxed is rules of nothing but that tax.
func taxed(t api.Tax) api.Rules {
	return api.Rules{Tax: t, Policy: api.Policy{Mode: api.Reprice}}
}

// least is rules that have nothing that they need not have.
func least() api.Rules { return api.Rules{Policy: api.Policy{Mode: api.Reprice}} }

// some is rules of which each list has something, and each list within one of them.
func some() api.Rules {
	of := api.Scope{Skus: []string{"cup", "tea"}, Categories: []string{"food", "pots"}}
	return api.Rules{
		Items: []api.Item{item("cup", "pots", 300, false), item("jam", "food", 250, true), item("tea", "food", 450, false)},
		Promos: []api.Promo{
			{Id: "b", Kind: api.Percent, Priority: 3, Group: "g", Code: "k", Closes: true, Scope: of, Least: 500, Rate: 1_000},
			{Id: "a", Kind: api.Amount, Scope: api.Scope{Skus: []string{"jam"}}, Amount: 20},
			{Id: "c", Kind: api.BuyGet, Rate: 5_000, Buy: 2, Get: 1},
			{Id: "e", Kind: api.Bundle, Amount: 600, Parts: []api.Part{{Scope: of, Count: 2}, {Scope: api.Scope{Categories: []string{"food"}}, Count: 1}}},
			{Id: "d", Kind: api.Spend, Tiers: []api.Tier{{Least: 0, Rate: 100}, {Least: 900, Rate: 200, Amount: 7}}},
			{Id: "f", Kind: api.Shipping, Rate: 10_000},
		},
		Tax: api.Tax{Inclusive: true, ByOrder: true, Round: api.HalfUp, Zones: []api.Zone{
			aZone("north", 2_000, 1_900, aRate("food", 700), aRate("pots", 1_900)),
			aZone("south", 0, 0),
			aZone("west", 5, 6, aRate("food", 7)),
		}},
		Ship:   api.Ship{Fee: 490, Free: 5_000},
		Policy: api.Policy{Window: 30, Grace: 14, Mode: api.Reject, Restock: 1_500, Order: []int{2, 9, 1}, Credit: []int{4, 9}},
	}
}

// full is rules with as much as they may have.
func full() api.Rules {
	var r api.Rules
	for i, name := range rising(api.MaxItems) {
		r.Items = append(r.Items, item(name, rising(7)[i%7], api.MaxPrice, i%2 == 0))
	}
	for _, name := range rising(api.MaxPromos) {
		r.Promos = append(r.Promos, api.Promo{Id: name, Kind: api.Percent, Priority: 1_000, Least: api.MaxGross, Rate: api.MaxRate, Scope: api.Scope{Skus: rising(api.MaxScope), Categories: rising(api.MaxScope)}})
	}
	r.Tax = api.Tax{Inclusive: true, ByOrder: true, Round: api.HalfEven}
	for _, name := range rising(api.MaxZones) {
		z := aZone(name, api.MaxRate, api.MaxRate)
		for _, category := range rising(api.MaxRates) {
			z.Rates = append(z.Rates, aRate(category, api.MaxRate))
		}
		r.Tax.Zones = append(r.Tax.Zones, z)
	}
	r.Ship = api.Ship{Fee: api.MaxPrice, Free: api.MaxGross}
	r.Policy = api.Policy{Window: api.MaxDay, Grace: api.MaxDay, Mode: api.Prorate, Restock: api.MaxRate, Order: []int{9, 8, 7, 6, 5, 4, 3, 2, 1}, Credit: []int{1, 2, 3, 4, 5, 6, 7, 8, 9}}
	return r
}

// bases is what is turned: each is right.
func bases() map[string]api.Rules {
	return map[string]api.Rules{"the least": least(), "some": some(), "the most": full()}
}

// lists calls f with each list of up to n of those things, a new one each time.
func lists[T any](n int, things []T, f func([]T)) {
	var longer func(l []T)
	longer = func(l []T) {
		f(slices.Clone(l))
		if len(l) == n {
			return
		}
		for _, x := range things {
			longer(append(l, x))
		}
	}
	longer(make([]T, 0, n))
}

// told is a thing as one line. Of a long one its beginning is enough.
func told(x any) string {
	s := fmt.Sprintf("%+v", x)
	return s[:min(len(s), 600)]
}

// holds holds Right and Tax against their words, and r against what it was.
func holds(t *testing.T, r api.Rules) {
	t.Helper()
	was := copied(r)
	if got, want := rules.Right(r), right(was); got != want {
		t.Fatalf("Right(%s): %v, want %v", told(was), got, want)
	}
	if got, want := rules.Tax(r.Tax), taxRight(was.Tax); got != want {
		t.Fatalf("Tax(%s): %v, want %v", told(was.Tax), got, want)
	}
	if !same(r, was) {
		t.Fatalf("Right(%s) and Tax made %s of it", told(was), told(r))
	}
}

// holdsZone holds Zone against its words, and x against what it was.
func holdsZone(t *testing.T, x api.Tax, name string) {
	t.Helper()
	was := copied(x)
	got, is := rules.Zone(x, name)
	if want, there := zone(was, name); is != there || !same(got, want) {
		t.Fatalf("Zone(%s, %q): %s, %v, want %s, %v", told(was), name, told(got), is, told(want), there)
	}
	if !same(x, was) {
		t.Fatalf("Zone(%s, %q) made %s of it", told(was), name, told(x))
	}
}

// holdsRate holds Rate against its words, and z against what it was.
func holdsRate(t *testing.T, z api.Zone, category string) {
	t.Helper()
	was := copied(z)
	if got, want := rules.Rate(z, category), rate(was, category); got != want {
		t.Fatalf("Rate(%s, %q): %d, want %d", told(was), category, got, want)
	}
	if !same(z, was) {
		t.Fatalf("Rate(%s, %q) made %s of it", told(was), category, told(z))
	}
}

// holdsSame holds Same against its words, either way round, and both against what they were.
func holdsSame(t *testing.T, a, b api.Rules) {
	t.Helper()
	aWas, bWas := copied(a), copied(b)
	want := same(aWas, bWas)
	if rules.Same(a, b) != want || rules.Same(b, a) != want {
		t.Fatalf("Same(%s, %s): %v, and the other way round %v, want %v", told(aWas), told(bWas), rules.Same(a, b), rules.Same(b, a), want)
	}
	if !same(a, aWas) || !same(b, bWas) {
		t.Fatalf("Same(%s, %s) made %s and %s of them", told(aWas), told(bWas), told(a), told(b))
	}
}

// P13.1: Right and Tax

// turn is one thing that is made of rules that are right, and whether they are right then.
type turn struct {
	name string
	to   func(r *api.Rules)
	want bool
}

// numberTurns turns a number to all that is near its ends, and far beyond them.
func numberTurns[N int | int64](name string, least, most N, to func(r *api.Rules, x N)) []turn {
	far := []N{math.MinInt64, math.MinInt64 + 1, -1 << 32, -1<<32 + 1, -1, 1 << 32, 1<<32 + 1, 1<<32 + 2, math.MaxInt64 - 1, math.MaxInt64}
	var l []turn
	for _, x := range append(far, least-1, least, least+1, most-1, most, most+1) {
		set := func(r *api.Rules) { to(r, x) }
		l = append(l, turn{name + " of " + strconv.FormatInt(int64(x), 10), set, least <= x && x <= most})
	}
	return l
}

// taxTurns turns what is said of Tax.
func taxTurns() []turn {
	zones := func(l ...api.Zone) func(r *api.Rules) { return func(r *api.Rules) { r.Tax.Zones = l } }
	named := func(names ...string) func(r *api.Rules) { return zones(zonesOf(names...)...) }
	rated := func(names ...string) func(r *api.Rules) { return zones(aZone("n", 0, 0, ratesOf(names...)...)) }
	l := []turn{
		{"Inclusive", func(r *api.Rules) { r.Tax.Inclusive = true }, true},
		{"not Inclusive", func(r *api.Rules) { r.Tax.Inclusive = false }, true},
		{"ByOrder", func(r *api.Rules) { r.Tax.ByOrder = true }, true},
		{"not ByOrder", func(r *api.Rules) { r.Tax.ByOrder = false }, true},
		{"no tax at all", func(r *api.Rules) { r.Tax = api.Tax{} }, true},
		{"no zones", zones(), true},
		{"zones of an empty list", func(r *api.Rules) { r.Tax.Zones = []api.Zone{} }, true},
		{"one zone", named("n"), true},
		{"MaxZones", named(rising(20)...), true},
		{"one zone more", named(rising(21)...), false},
		{"many zones", named(rising(500)...), false},
		{"zones of equal names", named("n", "n"), false},
		{"zones of names that fall", named("s", "n"), false},
		{"the first two equal", named("a", "a", "b"), false},
		{"the last two equal", named("a", "b", "b"), false},
		{"the first two falling", named("b", "a", "c"), false},
		{"the last two falling", named("a", "c", "b"), false},
		{"the first again as the last", named("a", "b", "c", "a"), false},
		{"a beginning of the next", named("a", "a-", "a-0", "aa"), true},
		{"what goes on ahead of it", named("a-", "a"), false},
		{"as numbers they would rise", named("9", "10"), false},
		{"as numbers they fall", named("10", "9"), true},
		{"a zone of nothing", zones(api.Zone{}), false},
		{"a zone of no byte", named("", "a"), false},
		{"a zone of MaxName", named("abcdefghijkl"), true},
		{"a zone of one byte more", named("abcdefghijklm"), false},
		{"a zone of a great letter", named("A", "a"), false},
		{"a zone of a letter of two bytes", named("a", "é"), false},
		{"a zone with a blank", named("a", "a b", "c"), false},
		{"a zone with a nought", named("a\x00"), false},
		{"the last of three zones is no name", named("a", "b", "c!"), false},
		{"no rates", rated(), true},
		{"one rate", rated("x"), true},
		{"MaxRates", rated(rising(40)...), true},
		{"one rate more", rated(rising(41)...), false},
		{"many rates", rated(rising(500)...), false},
		{"categories that are equal", rated("x", "x"), false},
		{"categories that fall", rated("y", "x"), false},
		{"the last two categories equal", rated("x", "y", "y"), false},
		{"the last two categories falling", rated("x", "z", "y"), false},
		{"the first category again as the last", rated("x", "y", "x"), false},
		{"a category that is a beginning of the next", rated("x", "x-", "xx"), true},
		{"a category of no byte", rated(""), false},
		{"a category of MaxName", rated("abcdefghijkl"), true},
		{"a category of one byte more", rated("abcdefghijklm"), false},
		{"a category of a great letter", rated("X", "x"), false},
		{"a category of a blank", rated(" "), false},
		{"a category of a letter of two bytes", rated("x", "é"), false},
		{"a category that no item has", rated("xyz"), true},
		{"zones of the same rates", zones(aZone("a", 1, 1, ratesOf("x", "y")...), aZone("b", 1, 1, ratesOf("x", "y")...)), true},
		{"zones whose rates rise from one to the other", zones(aZone("a", 1, 1, ratesOf("y")...), aZone("b", 1, 1, ratesOf("x")...)), true},
		{"a rate called like its zone", zones(aZone("a", 1, 1, ratesOf("a")...)), true},
		{"the last of two zones has categories that fall", zones(aZone("a", 1, 1, ratesOf("x", "y")...), aZone("b", 1, 1, ratesOf("y", "x")...)), false},
		{"the first of two zones has one rate more", zones(aZone("a", 1, 1, ratesOf(rising(41)...)...), aZone("b", 1, 1)), false},
		{"rates that fall", zones(aZone("a", 1, 1, aRate("x", 9), aRate("y", 8), aRate("z", 8))), true},
		{"rates of MaxRate together, and more", zones(aZone("a", api.MaxRate, api.MaxRate, aRate("x", api.MaxRate), aRate("y", api.MaxRate))), true},
		{"a Rate below, and one that makes up for it", zones(aZone("a", 1, 1, aRate("x", -1), aRate("y", 2))), false},
	}
	return slices.Concat(l,
		numberTurns("a Round", api.Down, api.HalfEven, func(r *api.Rules, x int) { r.Tax.Round = x }),
		numberTurns("a Rate", 0, api.MaxRate, func(r *api.Rules, x int64) { r.Tax.Zones = []api.Zone{aZone("n", 1, 1, aRate("x", x))} }),
		numberTurns("a Rate of the last", 0, api.MaxRate, func(r *api.Rules, x int64) {
			r.Tax.Zones = []api.Zone{aZone("n", 1, 1), aZone("o", 1, 1, aRate("x", 1), aRate("y", x))}
		}),
		numberTurns("a Rest", 0, api.MaxRate, func(r *api.Rules, x int64) { r.Tax.Zones = []api.Zone{aZone("n", x, 1, aRate("x", 1))} }),
		numberTurns("a Rest of the last", 0, api.MaxRate, func(r *api.Rules, x int64) { r.Tax.Zones = []api.Zone{aZone("n", 1, 1), aZone("o", x, 1)} }),
		numberTurns("a tax on shipping", 0, api.MaxRate, func(r *api.Rules, x int64) { r.Tax.Zones = []api.Zone{aZone("n", 1, x, aRate("x", 1))} }),
		numberTurns("a tax on shipping of the first", 0, api.MaxRate, func(r *api.Rules, x int64) { r.Tax.Zones = []api.Zone{aZone("n", 1, x), aZone("o", 1, 1)} }),
	)
}

// goodsTurns turns Items and Promos.
func goodsTurns() []turn {
	items := func(l ...api.Item) func(r *api.Rules) { return func(r *api.Rules) { r.Items = l } }
	promos := func(l ...api.Promo) func(r *api.Rules) { return func(r *api.Rules) { r.Promos = l } }
	a, b := item("a", "x", 1, false), item("b", "x", 2, true)
	p := func(id string, rate int64) api.Promo { return api.Promo{Id: id, Kind: api.Percent, Rate: rate} }
	most, more := full(), full()
	more.Items = append(more.Items, item("z", "x", 1, false))
	more.Promos = append(more.Promos, p("z", 1))
	return []turn{
		{"no Items", items(), true},
		{"Items of an empty list", func(r *api.Rules) { r.Items = []api.Item{} }, true},
		{"one item", items(a), true},
		{"two Items", items(a, b), true},
		{"Items that are equal", items(a, a), false},
		{"Items that fall", items(b, a), false},
		{"an item of nothing", items(api.Item{}), false},
		{"an item that is no name", items(item("A", "x", 1, false)), false},
		{"an item of no Category", items(item("a", "", 1, false)), false},
		{"an item below 0", items(item("a", "x", -1, false)), false},
		{"an item above MaxPrice", items(item("a", "x", api.MaxPrice+1, false)), false},
		{"MaxItems", items(most.Items...), true},
		{"one item more", items(more.Items...), false},
		{"no Promos", promos(), true},
		{"Promos of an empty list", func(r *api.Rules) { r.Promos = []api.Promo{} }, true},
		{"one promo", promos(p("p", 1)), true},
		{"two Promos", promos(p("p", 1), p("q", 1)), true},
		{"Promos whose Ids fall", promos(p("q", 1), p("p", 1)), true},
		{"Promos of one Id", promos(p("p", 1), p("p", 2)), false},
		{"a promo of nothing", promos(api.Promo{}), false},
		{"a promo without a Rate", promos(p("p", 0)), false},
		{"a promo that is not right, the last", promos(p("p", 1), p("q", 10_001)), false},
		{"a promo for what is not sold", promos(api.Promo{Id: "p", Kind: api.Amount, Amount: 1, Scope: api.Scope{Skus: []string{"xyz"}}}), true},
		{"MaxPromos", promos(most.Promos...), true},
		{"one promo more", promos(more.Promos...), false},
		{"neither Items nor Promos", func(r *api.Rules) { r.Items, r.Promos = nil, nil }, true},
	}
}

// policyTurns turns Ship and Policy.
func policyTurns() []turn {
	l := slices.Concat(
		numberTurns("a Fee", 0, api.MaxPrice, func(r *api.Rules, x int64) { r.Ship.Fee = x }),
		numberTurns("a Free", 0, api.MaxGross, func(r *api.Rules, x int64) { r.Ship.Free = x }),
		numberTurns("a Window", 0, api.MaxDay, func(r *api.Rules, x int) { r.Policy.Window = x }),
		numberTurns("a Grace", 0, api.MaxDay, func(r *api.Rules, x int) { r.Policy.Grace = x }),
		numberTurns("a Mode", api.Reprice, api.Prorate, func(r *api.Rules, x int) { r.Policy.Mode = x }),
		numberTurns("a Restock", 0, api.MaxRate, func(r *api.Rules, x int64) { r.Policy.Restock = x }),
		numberTurns("an Order of one", 1, api.MaxKinds, func(r *api.Rules, x int) { r.Policy.Order = []int{x} }),
		numberTurns("a Credit of one", 1, api.MaxKinds, func(r *api.Rules, x int) { r.Policy.Credit = []int{x} }),
		[]turn{
			{"a Grace beyond the Window", func(r *api.Rules) { r.Policy.Window, r.Policy.Grace = 1, 2 }, true},
			{"a Free without a Fee", func(r *api.Rules) { r.Ship = api.Ship{Free: 1} }, true},
			{"a Free below the Fee", func(r *api.Rules) { r.Ship = api.Ship{Fee: 2, Free: 1} }, true},
			{"no Ship", func(r *api.Rules) { r.Ship = api.Ship{} }, true},
			{"no Policy", func(r *api.Rules) { r.Policy = api.Policy{} }, false},
			{"Order and Credit of one kind", func(r *api.Rules) { r.Policy.Order, r.Policy.Credit = []int{3}, []int{3} }, true},
		},
	)
	for _, list := range []struct {
		name string
		to   func(r *api.Rules, l []int)
	}{
		{"an Order", func(r *api.Rules, l []int) { r.Policy.Order = l }},
		{"a Credit", func(r *api.Rules, l []int) { r.Policy.Credit = l }},
	} {
		for _, x := range []struct {
			name  string
			kinds []int
			want  bool
		}{
			{"none", nil, true},
			{"an empty list", []int{}, true},
			{"each kind", []int{1, 2, 3, 4, 5, 6, 7, 8, 9}, true},
			{"each kind, falling", []int{9, 8, 7, 6, 5, 4, 3, 2, 1}, true},
			{"each kind, mixed", []int{5, 1, 9, 2, 8, 3, 7, 4, 6}, true},
			{"each kind, and 0", []int{1, 2, 3, 4, 5, 6, 7, 8, 9, 0}, false},
			{"each kind, and one beyond", []int{1, 2, 3, 4, 5, 6, 7, 8, 9, 10}, false},
			{"0 ahead of each kind", []int{0, 1, 2, 3, 4, 5, 6, 7, 8, 9}, false},
			{"one kind twice", []int{4, 4}, false},
			{"one kind twice, apart", []int{4, 5, 4}, false},
			{"a kind three times", []int{9, 9, 9}, false},
			{"0 between", []int{1, 0, 2}, false},
			{"one below 0 at the end", []int{1, 2, -1}, false},
			{"one beyond first", []int{10, 2, 1}, false},
			{"0 twice", []int{0, 0}, false},
			{"one beyond twice", []int{10, 10}, false},
		} {
			set := func(r *api.Rules) { list.to(r, slices.Clone(x.kinds)) }
			l = append(l, turn{list.name + " of " + x.name, set, x.want})
		}
	}
	return l
}

func TestRight(t *testing.T) {
	for name, r := range bases() {
		if !rules.Right(r) || !rules.Tax(r.Tax) {
			t.Errorf("%s: not right", name)
		}
		holds(t, r)
	}
	for _, x := range slices.Concat(goodsTurns(), policyTurns()) {
		for name, r := range bases() {
			x.to(&r)
			if got := rules.Right(r); got != x.want {
				t.Errorf("%s, of %s: Right: %v, want %v", x.name, name, got, x.want)
			}
			if !rules.Tax(r.Tax) {
				t.Errorf("%s, of %s: Tax: false", x.name, name)
			}
			holds(t, r)
		}
	}
}

func TestTax(t *testing.T) {
	if !rules.Tax(api.Tax{}) {
		t.Error("a Tax without zones is not right")
	}
	for _, x := range taxTurns() {
		for name, r := range bases() {
			x.to(&r)
			if got := rules.Tax(r.Tax); got != x.want {
				t.Errorf("%s, of %s: Tax(%s): %v, want %v", x.name, name, told(r.Tax), got, x.want)
			}
			if got := rules.Right(r); got != x.want {
				t.Errorf("%s, of %s: Right: %v, want %v", x.name, name, got, x.want)
			}
			holds(t, r)
		}
	}
}

// Tax asks of Tax alone: whatever else is wrong, it is right.
func TestTaxOfRulesThatAreNotRight(t *testing.T) {
	r := some()
	r.Items, r.Promos, r.Ship, r.Policy = []api.Item{{}}, []api.Promo{{}}, api.Ship{Fee: -1}, api.Policy{}
	if !rules.Tax(r.Tax) || rules.Right(r) || rules.Right(api.Rules{}) {
		t.Error("Tax and Right of rules of which the tax alone is right")
	}
}

// Each two turns, one behind the other.
func TestRightOfTwoTurns(t *testing.T) {
	all := slices.Concat(goodsTurns(), policyTurns(), taxTurns())
	for _, base := range []api.Rules{least(), some()} {
		for i, first := range all {
			for k, second := range all {
				if (i+k)%4 != 0 { // of the many each fourth is enough
					continue
				}
				r := base
				first.to(&r)
				second.to(&r)
				if got, want := rules.Right(r), right(r); got != want {
					t.Fatalf("%s, then %s: Right(%s): %v, want %v", first.name, second.name, told(r), got, want)
				}
			}
		}
	}
}

// Of each number, beside and far above the limit.
func TestTaxOfEachNumber(t *testing.T) {
	for n := range 3 * api.MaxZones {
		if got, want := rules.Tax(api.Tax{Zones: zonesOf(rising(n)...)}), n <= 20; got != want {
			t.Errorf("Tax of %d zones: %v, want %v", n, got, want)
		}
	}
	for n := range 3 * api.MaxRates {
		if got, want := rules.Tax(taxOf(rising(n)...)), n <= 40; got != want {
			t.Errorf("Tax of %d rates: %v, want %v", n, got, want)
		}
	}
}

// One thing that is wrong, at each place of a tax that is full.
func TestTaxOfOneWrongThing(t *testing.T) {
	wrongNames := []string{"", "N", "n n", "é", "n-00000000000", "n\x00"}
	x := full().Tax
	spoiled := func(i, k int, what string, f func()) {
		was := copied(x.Zones[i])
		f()
		if rules.Tax(x) {
			t.Fatalf("Tax with %s at %d, %d: true", what, i, k)
		}
		x.Zones[i] = was
	}
	for i := range x.Zones {
		for _, name := range wrongNames {
			spoiled(i, 0, strconv.Quote(name), func() { x.Zones[i].Name = name })
		}
		if i > 0 {
			spoiled(i, 0, "the name ahead", func() { x.Zones[i].Name = x.Zones[i-1].Name })
			spoiled(i, 0, "the first name", func() { x.Zones[i].Name = x.Zones[0].Name })
		}
		for _, rate := range []int64{-1, api.MaxRate + 1} {
			spoiled(i, 0, "a wrong Rest", func() { x.Zones[i].Rest = rate })
			spoiled(i, 0, "a wrong Ship", func() { x.Zones[i].Ship = rate })
		}
		spoiled(i, 0, "one rate more", func() { x.Zones[i].Rates = append(x.Zones[i].Rates, aRate("z", 1)) })
		for k := range x.Zones[i].Rates {
			for _, name := range wrongNames {
				spoiled(i, k, strconv.Quote(name), func() { x.Zones[i].Rates[k].Category = name })
			}
			if k > 0 {
				spoiled(i, k, "the category ahead", func() { x.Zones[i].Rates[k].Category = x.Zones[i].Rates[k-1].Category })
				spoiled(i, k, "the first category", func() { x.Zones[i].Rates[k].Category = x.Zones[i].Rates[0].Category })
			}
			for _, rate := range []int64{-1, api.MaxRate + 1} {
				spoiled(i, k, "a wrong Rate", func() { x.Zones[i].Rates[k].Rate = rate })
			}
		}
	}
	if !rules.Tax(x) {
		t.Error("what was put back is not right")
	}
}

func TestTaxOfAllLittleLists(t *testing.T) {
	texts := []string{"", "-", "0", "a", "a-", "aa", "A", "é"}
	lists(4, texts, func(l []string) {
		holds(t, taxed(api.Tax{Zones: zonesOf(l...)}))
		holds(t, taxed(taxOf(l...)))
	})
	lists(2, texts, func(l []string) {
		lists(2, texts, func(m []string) {
			holds(t, taxed(api.Tax{Zones: []api.Zone{aZone("n", 0, 0, ratesOf(l...)...), aZone("o", 0, 0, ratesOf(m...)...)}}))
		})
	})
}

// All little lists of kinds, in Order and in Credit.
func TestRightOfAllLittleListsOfKinds(t *testing.T) {
	kinds := []int{-1, 0, 1, 2, 8, 9, 10}
	lists(4, kinds, func(l []int) {
		r := least()
		r.Policy.Order = l
		holds(t, r)
		r = least()
		r.Policy.Credit = l
		holds(t, r)
	})
	lists(2, kinds, func(l []int) {
		lists(2, kinds, func(m []int) {
			r := least()
			r.Policy.Order, r.Policy.Credit = l, m
			holds(t, r)
		})
	})
}

// One kind twice at each two places, and one that there is not at each place, of lists of each length.
func TestRightOfOneKindTwiceAnywhere(t *testing.T) {
	for n := 1; n <= api.MaxKinds+1; n++ {
		for i := range n {
			for _, turned := range []int{-9, -1, 0, 10, 11, 1<<32 + 1, 1 << 62} {
				holdsKinds(t, n, i, turned)
			}
			for k := range n {
				holdsKinds(t, n, i, 1+(k*4)%9)
			}
		}
	}
}

// holdsKinds asks of n kinds, of which the i-th is that one.
func holdsKinds(t *testing.T, n, i, kind int) {
	t.Helper()
	l := make([]int, 0, n)
	for k := range n {
		l = append(l, 1+(k*4)%9)
	}
	l[i] = kind
	r := some()
	r.Policy.Order = l
	holds(t, r)
	r = some()
	r.Policy.Credit = l
	holds(t, r)
}

// P13.1: Zone

func TestZone(t *testing.T) {
	north, south := aZone("north", 1, 2, aRate("x", 3), aRate("y", 4)), aZone("south", 5, 6)
	other := aZone("north", 7, 8, aRate("z", 9))
	odd := aZone("", -1, 1<<40, aRate("", -5), aRate("", 6), aRate("B", 7), aRate("A", 8))
	of := func(l ...api.Zone) api.Tax {
		return api.Tax{Inclusive: true, ByOrder: true, Round: api.HalfEven, Zones: l}
	}
	none := api.Zone{}
	for name, x := range map[string]struct {
		tax  api.Tax
		name string
		want api.Zone
		is   bool
	}{
		"no zones":                         {api.Tax{}, "north", none, false},
		"no zones, no name":                {api.Tax{}, "", none, false},
		"an empty list":                    {api.Tax{Zones: []api.Zone{}}, "north", none, false},
		"one":                              {of(north), "north", north, true},
		"the first":                        {of(north, south), "north", north, true},
		"the last":                         {of(north, south), "south", south, true},
		"one that is not there":            {of(north, south), "west", none, false},
		"below all":                        {of(north, south), "a", none, false},
		"above all":                        {of(north, south), "z", none, false},
		"an empty name":                    {of(north, south), "", none, false},
		"a beginning":                      {of(north, south), "nort", none, false},
		"what goes on":                     {of(north, south), "north-", none, false},
		"a great letter":                   {of(north, south), "North", none, false},
		"a category":                       {of(north, south), "x", none, false},
		"there twice":                      {of(north, other), "north", north, true},
		"there twice, the other way round": {of(other, north), "north", other, true},
		"there twice, apart":               {of(south, other, aZone("a", 0, 0), north), "north", other, true},
		"of zones that fall":               {of(south, north), "north", north, true},
		"of zones that fall, the first":    {of(south, north), "south", south, true},
		"a zone of nothing":                {of(none), "", none, true},
		"an empty name that is there":      {of(north, odd, none), "", odd, true},
		"a name that is none":              {of(aZone("A b\xff", 1, 1)), "A b\xff", aZone("A b\xff", 1, 1), true},
		"of a wrong Round":                 {api.Tax{Round: -7, Zones: []api.Zone{south}}, "south", south, true},
		"of many":                          {of(zonesOf(rising(300)...)...), rising(300)[299], zonesOf(rising(300)...)[299], true},
		"of many, not there":               {of(zonesOf(rising(300)...)...), rising(301)[300], none, false},
	} {
		got, is := rules.Zone(x.tax, x.name)
		if is != x.is || !same(got, x.want) {
			t.Errorf("%s: Zone(%s, %q): %s, %v, want %s, %v", name, told(x.tax), x.name, told(got), is, told(x.want), x.is)
		}
		holdsZone(t, x.tax, x.name)
	}
}

func TestZoneOfAllLittleTaxes(t *testing.T) {
	texts := []string{"", "a", "aa", "b", "A"}
	lists(4, texts, func(l []string) {
		for _, name := range append(texts, "c", "B") {
			holdsZone(t, api.Tax{Zones: zonesOf(l...)}, name)
		}
	})
}

func TestZoneOfEachOfAFullTax(t *testing.T) {
	x := full().Tax
	for i, name := range rising(api.MaxZones) {
		x.Zones[i].Rest = int64(i)
		holdsZone(t, x, name)
		holdsZone(t, x, name[:10])
		holdsZone(t, x, name+"0")
	}
}

// P13.1: Rate

func TestRate(t *testing.T) {
	z := aZone("n", 3, 4, aRate("x", 1), aRate("y", 2))
	twice := aZone("n", 8, 9, aRate("b", 5), aRate("a", 6), aRate("b", 7))
	odd := aZone("", -1, 0, aRate("", -5), aRate("B", 1<<40), aRate("é", 7), aRate("A", math.MinInt64))
	for name, x := range map[string]struct {
		z        api.Zone
		category string
		want     int64
	}{
		"the first":                         {z, "x", 1},
		"the last":                          {z, "y", 2},
		"one that is not there":             {z, "q", 3},
		"below all":                         {z, "a", 3},
		"above all":                         {z, "z", 3},
		"an empty name":                     {z, "", 3},
		"a beginning of none":               {z, "xy", 3},
		"a great letter":                    {z, "X", 3},
		"the zone's name":                   {z, "n", 3},
		"no rates":                          {aZone("n", 3, 4), "x", 3},
		"an empty list":                     {api.Zone{Rates: []api.CatRate{}, Rest: 3, Ship: 4}, "x", 3},
		"a zone of nothing":                 {api.Zone{}, "x", 0},
		"a zone of nothing, an empty name":  {api.Zone{}, "", 0},
		"there twice":                       {twice, "b", 5},
		"of rates that fall":                {twice, "a", 6},
		"there twice, one that is not":      {twice, "c", 8},
		"a Rate of 0 is no Rest":            {aZone("n", 3, 4, aRate("x", 0)), "x", 0},
		"a Rate of 0, and another":          {aZone("n", 3, 4, aRate("x", 0), aRate("x", 7)), "x", 0},
		"an empty name that is there":       {odd, "", -5},
		"a name that is none":               {odd, "é", 7},
		"a Rate that may not be":            {odd, "B", 1 << 40},
		"the least Rate":                    {odd, "A", math.MinInt64},
		"a Rest that may not be":            {odd, "b", -1},
		"the last of many":                  {aZone("n", 1, 1, ratesOf(rising(300)...)...), rising(300)[299], 3 * 299},
		"of many, one that is not there":    {aZone("n", 1, 2, ratesOf(rising(300)...)...), rising(301)[300], 1},
		"all of one category":               {aZone("n", 1, 2, aRate("x", 9), aRate("x", 8), aRate("x", 7)), "x", 9},
		"between rates, there is none":      {aZone("n", 1, 2, aRate("a", 9), aRate("c", 8)), "b", 1},
		"a zone that has no name has rates": {aZone("", 1, 2, aRate("a", 9)), "a", 9},
	} {
		if got := rules.Rate(x.z, x.category); got != x.want {
			t.Errorf("%s: Rate(%s, %q): %d, want %d", name, told(x.z), x.category, got, x.want)
		}
		holdsRate(t, x.z, x.category)
	}
}

func TestRateOfAllLittleZones(t *testing.T) {
	texts := []string{"", "a", "aa", "b", "A"}
	lists(4, texts, func(l []string) {
		for _, category := range append(texts, "c", "B") {
			holdsRate(t, aZone("n", 77, 78, ratesOf(l...)...), category)
		}
	})
}

// What tax is asked for is told by both together.
func TestRateOfAZone(t *testing.T) {
	x := some().Tax
	for _, c := range []struct {
		zone, category string
		want           int64
	}{{"north", "food", 700}, {"north", "pots", 1_900}, {"north", "books", 2_000}, {"south", "food", 0}, {"west", "food", 7}, {"west", "pots", 5}} {
		z, is := rules.Zone(x, c.zone)
		if got := rules.Rate(z, c.category); !is || got != c.want {
			t.Errorf("Rate of %s in %s: %d, %v, want %d", c.category, c.zone, got, is, c.want)
		}
	}
}

// P13.1: Same

func TestSame(t *testing.T) {
	empty := api.Rules{Items: []api.Item{}, Promos: []api.Promo{}, Tax: api.Tax{Zones: []api.Zone{}}, Policy: api.Policy{Order: []int{}, Credit: []int{}}}
	within := api.Rules{Promos: []api.Promo{{}}, Tax: api.Tax{Zones: []api.Zone{{}}}}
	emptyWithin := api.Rules{
		Promos: []api.Promo{{Scope: api.Scope{Skus: []string{}, Categories: []string{}}, Parts: []api.Part{}, Tiers: []api.Tier{}}},
		Tax:    api.Tax{Zones: []api.Zone{{Rates: []api.CatRate{}}}},
	}
	all := []api.Rules{{}, least(), some(), full(), within}
	for i, a := range all {
		if !rules.Same(a, a) || !rules.Same(a, copied(a)) || !rules.Same(copied(a), a) {
			t.Errorf("the rules %d are not the same as themselves", i)
		}
		for k, b := range all {
			if rules.Same(a, b) != (i == k) {
				t.Errorf("Same of the rules %d and %d: %v", i, k, i != k)
			}
			holdsSame(t, a, b)
		}
	}
	if !rules.Same(api.Rules{}, empty) || !rules.Same(empty, api.Rules{}) || !rules.Same(within, emptyWithin) || !rules.Same(emptyWithin, within) {
		t.Error("nil and an empty list are not the same")
	}
}

// place is one value of rules: how to come to it, and what it is called, without numbers.
type place struct {
	path string
	at   func(v reflect.Value) reflect.Value
}

// places is all values of v: fields, lists, elements of lists.
func places(v reflect.Value, path string, at func(v reflect.Value) reflect.Value) []place {
	switch v.Kind() {
	case reflect.Struct:
		var l []place
		for i := range v.NumField() {
			l = append(l, places(v.Field(i), path+"."+v.Type().Field(i).Name, func(v reflect.Value) reflect.Value { return at(v).Field(i) })...)
		}
		return l
	case reflect.Slice:
		l := []place{{path, at}}
		for i := range v.Len() {
			l = append(l, places(v.Index(i), path+"[]", func(v reflect.Value) reflect.Value { return at(v).Index(i) })...)
		}
		return l
	}
	return []place{{path, at}}
}

// paths is all that places may be called, of things of that type.
func paths(x reflect.Type, path string) []string {
	switch x.Kind() {
	case reflect.Struct:
		var l []string
		for i := range x.NumField() {
			l = append(l, paths(x.Field(i).Type, path+"."+x.Field(i).Name)...)
		}
		return l
	case reflect.Slice:
		return append([]string{path}, paths(x.Elem(), path+"[]")...)
	}
	return []string{path}
}

// turned is what v may be turned into, one thing at a time: none of them is as v was.
func turned(v reflect.Value) []func(v reflect.Value) {
	switch v.Kind() {
	case reflect.Bool:
		return []func(v reflect.Value){func(v reflect.Value) { v.SetBool(!v.Bool()) }}
	case reflect.String:
		return turnedText(v.String())
	case reflect.Slice:
		return turnedList(v)
	}
	return turnedNumber(v.Int())
}

func turnedText(s string) []func(v reflect.Value) {
	var l []func(v reflect.Value)
	for _, x := range []string{s + "z", s + "\x00", "z" + s, "", strings.ToUpper(s), s[:max(len(s)-1, 0)]} {
		if x != s {
			l = append(l, func(v reflect.Value) { v.SetString(x) })
		}
	}
	return l
}

func turnedNumber(n int64) []func(v reflect.Value) {
	var l []func(v reflect.Value)
	for _, x := range []int64{n + 1, n - 1, n + 256, n + 1<<32, n + math.MinInt64, -n, 0} {
		if x != n {
			l = append(l, func(v reflect.Value) { v.SetInt(x) })
		}
	}
	return l
}

// turnedList is with one element more or fewer at each place, and with each two that stand side by side changed round.
func turnedList(v reflect.Value) []func(v reflect.Value) {
	n := v.Len()
	var l []func(v reflect.Value)
	for i := range n + 1 {
		more := func(v reflect.Value) { // nothing, in between
			put := reflect.MakeSlice(v.Type(), 0, n+1)
			put = reflect.AppendSlice(put, v.Slice(0, i))
			put = reflect.Append(put, reflect.Zero(v.Type().Elem()))
			v.Set(reflect.AppendSlice(put, v.Slice(i, n)))
		}
		l = append(l, more)
		if i == n {
			break
		}
		l = append(l, func(v reflect.Value) { // the same once more
			put := reflect.MakeSlice(v.Type(), 0, n+1)
			put = reflect.AppendSlice(put, v.Slice(0, i+1))
			v.Set(reflect.AppendSlice(put, v.Slice(i, n)))
		}, func(v reflect.Value) { // one fewer
			put := reflect.MakeSlice(v.Type(), 0, n)
			put = reflect.AppendSlice(put, v.Slice(0, i))
			v.Set(reflect.AppendSlice(put, v.Slice(i+1, n)))
		})
		if i > 0 && !sameValue(v.Index(i), v.Index(i-1)) {
			l = append(l, func(v reflect.Value) { reflect.Swapper(v.Interface())(i, i-1) })
		}
	}
	if n > 0 {
		l = append(l, func(v reflect.Value) { v.Set(reflect.Zero(v.Type())) })
	}
	return l
}

// Each one thing turned, in each field and each element of each list: they are not the same, either way round.
func TestSameOfOneThingTurned(t *testing.T) {
	crowd := some()
	for i := range crowd.Promos { // each one with all that only some kinds may have: Same asks it of any
		crowd.Promos[i] = api.Promo{Id: "p", Kind: 4, Priority: 5, Group: "g", Code: "c", Closes: true, Scope: api.Scope{Skus: []string{"a", "b"}, Categories: []string{"x", "y"}}, Least: 6, Rate: 7, Amount: 8, Buy: 9, Get: 10,
			Parts: []api.Part{{Scope: api.Scope{Skus: []string{"d"}, Categories: []string{"e", "f"}}, Count: 3}, {Count: 4}}, Tiers: []api.Tier{{Least: 1, Rate: 2, Amount: 3}, {Least: 4}}}
	}
	missing := make(map[string]struct{})
	for _, path := range paths(reflect.TypeFor[api.Rules](), "") {
		missing[path] = struct{}{}
	}
	for _, base := range []api.Rules{{}, least(), some(), crowd} {
		whole := func(v reflect.Value) reflect.Value { return v }
		for _, p := range places(reflect.ValueOf(base), "", whole) {
			delete(missing, p.path)
			for i, turn := range turned(p.at(reflect.ValueOf(base))) {
				r := copied(base)
				turn(p.at(reflect.ValueOf(&r).Elem()))
				if rules.Same(base, r) || rules.Same(r, base) {
					t.Fatalf("%s turned by the way %d: Same(%s, %s): true", p.path, i, told(base), told(r))
				}
				if !rules.Same(r, copied(r)) {
					t.Fatalf("%s turned by the way %d: Same(%s) and itself: false", p.path, i, told(r))
				}
			}
		}
	}
	if len(missing) > 0 {
		t.Errorf("not turned: %v", missing)
	}
}

// Of rules that are full one thing at some places, the last among them.
func TestSameOfFullRules(t *testing.T) {
	base := full()
	last := func(r *api.Rules) *api.Zone { return &r.Tax.Zones[api.MaxZones-1] }
	for name, turn := range map[string]func(r *api.Rules){
		"the last item":         func(r *api.Rules) { r.Items[api.MaxItems-1].Final = !r.Items[api.MaxItems-1].Final },
		"one item fewer":        func(r *api.Rules) { r.Items = r.Items[:api.MaxItems-1] },
		"the last promo":        func(r *api.Rules) { r.Promos[api.MaxPromos-1].Code = "k" },
		"the last promo's last": func(r *api.Rules) { r.Promos[api.MaxPromos-1].Scope.Categories[api.MaxScope-1] = "z" },
		"one promo fewer":       func(r *api.Rules) { r.Promos = r.Promos[:api.MaxPromos-1] },
		"the last zone's last":  func(r *api.Rules) { last(r).Rates[api.MaxRates-1].Rate-- },
		"the last zone":         func(r *api.Rules) { last(r).Ship-- },
		"one zone fewer":        func(r *api.Rules) { r.Tax.Zones = r.Tax.Zones[:api.MaxZones-1] },
		"the last of Credit":    func(r *api.Rules) { r.Policy.Credit[8] = 1 },
		"Order as Credit":       func(r *api.Rules) { r.Policy.Order = r.Policy.Credit },
	} {
		r := full()
		turn(&r)
		if rules.Same(base, r) || rules.Same(r, base) {
			t.Errorf("%s turned: Same: true", name)
		}
	}
}

// What one field has another one does not: each two numbers, and each two lists, of one kind are changed round.
func TestSameOfFieldsChangedRound(t *testing.T) {
	base := some()
	base.Policy.Credit = []int{4}
	for name, turn := range map[string]func(r *api.Rules){
		"Inclusive and ByOrder": func(r *api.Rules) { r.Tax.ByOrder = false },
		"Window and Grace":      func(r *api.Rules) { r.Policy.Window, r.Policy.Grace = r.Policy.Grace, r.Policy.Window },
		"Order and Credit":      func(r *api.Rules) { r.Policy.Order, r.Policy.Credit = r.Policy.Credit, r.Policy.Order },
		"Fee and Free":          func(r *api.Rules) { r.Ship.Fee, r.Ship.Free = r.Ship.Free, r.Ship.Fee },
		"Rest and Ship": func(r *api.Rules) {
			r.Tax.Zones[0].Rest, r.Tax.Zones[0].Ship = r.Tax.Zones[0].Ship, r.Tax.Zones[0].Rest
		},
		"Rate and Amount": func(r *api.Rules) { r.Promos[0].Rate, r.Promos[0].Amount = r.Promos[0].Amount, r.Promos[0].Rate },
		"Buy and Get":     func(r *api.Rules) { r.Promos[2].Buy, r.Promos[2].Get = r.Promos[2].Get, r.Promos[2].Buy },
		"Group and Code":  func(r *api.Rules) { r.Promos[0].Group, r.Promos[0].Code = r.Promos[0].Code, r.Promos[0].Group },
		"Skus and Categories": func(r *api.Rules) {
			s := &r.Promos[0].Scope
			s.Skus, s.Categories = s.Categories, s.Skus
		},
		"a Sku for a Category": func(r *api.Rules) { r.Items[0].Sku, r.Items[0].Category = r.Items[0].Category, r.Items[0].Sku },
		"one list's last as the next one's first": func(r *api.Rules) {
			r.Policy.Order, r.Policy.Credit = []int{2, 9}, []int{1, 4}
		},
		"one zone's last rate as the next one's": func(r *api.Rules) {
			z := r.Tax.Zones
			z[0].Rates, z[1].Rates = z[0].Rates[:1], z[0].Rates[1:]
		},
	} {
		r := copied(base)
		turn(&r)
		if rules.Same(base, r) || rules.Same(r, base) {
			t.Errorf("%s changed round: Same: true", name)
		}
		holdsSame(t, base, r)
	}
}

// little is rules of few things, so that two of them are the same at times.
func little(r *rand.Rand) api.Rules {
	two := func() int { return r.Intn(2) }
	text := func() string { return []string{"a", "b"}[two()] }
	var x api.Rules
	for range two() {
		x.Items = append(x.Items, item(text(), text(), int64(two()), two() == 0))
	}
	for range two() {
		p := api.Promo{Id: text(), Rate: int64(two())}
		for range two() {
			p.Parts = append(p.Parts, api.Part{Count: two()})
		}
		x.Promos = append(x.Promos, p)
	}
	for range two() {
		x.Tax.Zones = append(x.Tax.Zones, aZone(text(), 0, 0, ratesOf([]string{"x", "y"}[:two()]...)...))
	}
	x.Policy.Mode = two()
	return x
}

func TestSameOfAnyRules(t *testing.T) {
	r := rand.New(rand.NewSource(131))
	times := 0
	for range 30_000 {
		a, b := little(r), little(r)
		holdsSame(t, a, b)
		if rules.Same(a, b) {
			times++
		}
	}
	if times < 100 || times > 29_900 {
		t.Errorf("%d of 30,000 are the same: this says little", times)
	}
}

// What holds everywhere

// filled is x in memory of its own, the room behind the end of each list filled with what stands in it, or with what is not zero.
func filled[T any](x T) T {
	out := withRoom(x, 3)
	fillValue(reflect.ValueOf(&out).Elem())
	return out
}

func fillValue(v reflect.Value) {
	switch v.Kind() {
	case reflect.Struct:
		for i := range v.NumField() {
			fillValue(v.Field(i))
		}
	case reflect.Slice:
		for i := range v.Len() {
			fillValue(v.Index(i))
		}
		whole := v.Slice(0, v.Cap())
		for i := v.Len(); i < v.Cap(); i++ {
			if v.Len() > 0 {
				copyValue(whole.Index(i), v.Index(0), 0)
				continue
			}
			markValue(whole.Index(i))
		}
	}
}

// markValue writes something that is wrong, wherever it stands.
func markValue(v reflect.Value) {
	switch v.Kind() {
	case reflect.Struct:
		for i := range v.NumField() {
			markValue(v.Field(i))
		}
	case reflect.Slice:
		v.Set(reflect.MakeSlice(v.Type(), 1, 1))
		markValue(v.Index(0))
	case reflect.Bool:
		v.SetBool(true)
	case reflect.String:
		v.SetString("Q")
	default:
		v.SetInt(-7)
	}
}

// What is handed in stays, with the room behind its end (R3); and what stands in that room plays no part.
func TestTheRoomBehindLists(t *testing.T) {
	for name, base := range bases() {
		r := filled(base)
		was := opened(r)
		if !rules.Right(r) || !rules.Tax(r.Tax) {
			t.Errorf("%s: Right or Tax asks what stands behind an end", name)
		}
		if !rules.Same(r, base) || !rules.Same(base, r) || !rules.Same(r, r) {
			t.Errorf("%s: Same asks what stands behind an end", name)
		}
		for _, z := range []string{"north", "south", "Q", "", rising(20)[19]} {
			got, is := rules.Zone(r.Tax, z)
			if want, there := zone(base.Tax, z); is != there || !same(got, want) {
				t.Errorf("%s: Zone(%q): %+v, %v, want %+v, %v", name, z, got, is, want, there)
			}
			_ = append(got.Rates, aRate("w", 1), aRate("w", 2))
		}
		for _, z := range r.Tax.Zones {
			for _, category := range []string{"food", "Q", ""} {
				if got, want := rules.Rate(z, category), rate(copied(z), category); got != want {
					t.Errorf("%s: Rate(%q): %d, want %d", name, category, got, want)
				}
			}
		}
		if !same(opened(r), was) {
			t.Errorf("%s: what was handed in is another, or the room behind an end", name)
		}
	}
}

// Lists of one memory, of which one is longer.
func TestListsOfOneMemory(t *testing.T) {
	r, shorter := some(), some()
	r.Policy.Order = []int{1, 2, 2}
	shorter.Policy.Order = r.Policy.Order[:2]
	if rules.Right(r) || !rules.Right(shorter) || rules.Same(r, shorter) || rules.Same(shorter, r) {
		t.Error("an Order, and the beginning of it")
	}
	r, shorter = some(), some()
	shorter.Tax.Zones = r.Tax.Zones[:2]
	if _, is := rules.Zone(shorter.Tax, "west"); is || rules.Same(r, shorter) || rules.Same(shorter, r) {
		t.Error("zones, and the beginning of them")
	}
}

// What is handed out is new memory: who writes into it, or into the room behind its end, changes nothing that was handed in, and nothing that is told later (R3).
func TestAZoneIsNewMemory(t *testing.T) {
	x := filled(some().Tax)
	was := opened(x)
	for _, name := range []string{"north", "south", "west"} {
		want, _ := zone(x, name)
		got, is := rules.Zone(x, name)
		again, isAgain := rules.Zone(x, name)
		room := got.Rates[:cap(got.Rates)]
		for i := range room {
			room[i] = aRate("w", -9)
		}
		_ = append(got.Rates, aRate("v", -8))
		got.Name, got.Rest = "", -1
		if !is || !isAgain || !same(again, want) {
			t.Errorf("Zone(%q), of which another one was written to: %+v, want %+v", name, again, want)
		}
		if later, is := rules.Zone(x, name); !is || !same(later, want) {
			t.Errorf("Zone(%q), told behind one that was written to: %+v, want %+v", name, later, want)
		}
	}
	if !same(opened(x), was) {
		t.Error("who writes into a Zone changes the tax")
	}
}

// What is handed in is not kept: who writes into it later changes no zone (R3).
func TestATaxIsNotKept(t *testing.T) {
	x := some().Tax
	want, _ := zone(x, "north")
	got, _ := rules.Zone(x, "north")
	for i := range x.Zones {
		for k := range x.Zones[i].Rates {
			x.Zones[i].Rates[k] = aRate("w", -9)
		}
		x.Zones[i] = aZone("q", -1, -1)
	}
	if !same(got, want) {
		t.Errorf("a zone, once its tax was written to: %+v, want %+v", got, want)
	}
	if _, is := rules.Zone(x, "north"); is || rules.Tax(x) {
		t.Error("a tax that was written to is asked as it was")
	}
}

// What was asked of others plays no part, and asked again the same is told (R2).
func TestAskedAgain(t *testing.T) {
	r, other := some(), full()
	for range 3 {
		if !rules.Right(r) || rules.Right(api.Rules{}) || !rules.Right(other) || !rules.Tax(r.Tax) || rules.Tax(api.Tax{Round: 3}) {
			t.Error("Right and Tax, asked again")
		}
		if !rules.Same(r, some()) || rules.Same(r, other) || !rules.Same(other, full()) || rules.Same(other, r) {
			t.Error("Same, asked again")
		}
		holdsZone(t, r.Tax, "north")
		holdsZone(t, other.Tax, "north")
		holdsRate(t, r.Tax.Zones[0], "food")
		holdsRate(t, r.Tax.Zones[1], "food")
	}
	r.Tax.Round = 3
	if rules.Right(r) || rules.Tax(r.Tax) || rules.Same(r, some()) {
		t.Error("rules that were right, once they are turned")
	}
}

// Of very many things each call ends, and soon (R1).
func TestOfVeryMany(t *testing.T) {
	const many = 200_000
	r := api.Rules{Items: make([]api.Item, many), Promos: make([]api.Promo, many), Tax: api.Tax{Zones: make([]api.Zone, many)}, Policy: api.Policy{Mode: 1, Order: make([]int, many), Credit: make([]int, many)}}
	other := r
	other.Policy.Credit = make([]int, many)
	other.Policy.Credit[many-1] = 1
	if rules.Right(r) || rules.Tax(r.Tax) || !rules.Same(r, r) || rules.Same(r, other) || rules.Same(other, r) {
		t.Error("rules of very many things")
	}
	kinds := least()
	kinds.Policy.Order = make([]int, many)
	for i := range kinds.Policy.Order {
		kinds.Policy.Order[i] = i + 1
	}
	if rules.Right(kinds) {
		t.Error("an Order of very many kinds is right")
	}
	if _, is := rules.Zone(r.Tax, "n"); is || rules.Rate(api.Zone{Rates: make([]api.CatRate, many), Rest: 7}, "x") != 7 {
		t.Error("Zone and Rate of very many")
	}
}
