package promo_test

import (
	"bytes"
	"math"
	"math/rand"
	"reflect"
	"regexp"
	"slices"
	"strconv"
	"strings"
	"testing"

	"haberdash/api"
	"haberdash/promo"
)

// The chapter's words once more, with the limits as numbers.

var (
	nameForm       = regexp.MustCompile(`\A[-0-9a-z]{1,12}\z`)
	nameOrNoneForm = regexp.MustCompile(`\A[-0-9a-z]{0,12}\z`)
)

// below is the document's word (R6): byte by byte, a beginning is below what goes on.
func below(s, t string) bool { return bytes.Compare([]byte(s), []byte(t)) < 0 }

// namesRise asks each two texts of l whether they rise.
func namesRise(l []string, most int) bool {
	if len(l) > most {
		return false
	}
	for i, s := range l {
		if !nameForm.MatchString(s) {
			return false
		}
		for _, t := range l[i+1:] {
			if !below(s, t) {
				return false
			}
		}
	}
	return true
}

func scopeRight(s api.Scope) bool { return namesRise(s.Skus, 20) && namesRise(s.Categories, 20) }

func nothing(s api.Scope) bool { return len(s.Skus) == 0 && len(s.Categories) == 0 }

func tiersRight(l []api.Tier) bool {
	if len(l) < 1 || len(l) > 6 {
		return false
	}
	for i, t := range l {
		if t.Least < 0 || t.Least > 10_000_000_000_000 {
			return false
		}
		if t.Rate < 0 || t.Rate > 10_000 || t.Amount < 0 || t.Amount > 10_000_000_000_000 {
			return false
		}
		if t.Rate == 0 && t.Amount == 0 {
			return false
		}
		for _, later := range l[i+1:] {
			if later.Least <= t.Least {
				return false
			}
		}
	}
	return true
}

func partsRight(l []api.Part) bool {
	if len(l) < 1 || len(l) > 3 {
		return false
	}
	for _, p := range l {
		if p.Count < 1 || p.Count > 100 || !scopeRight(p.Scope) {
			return false
		}
	}
	return true
}

// right goes through the words from the first to the last; what is named is taken out of p, so that zero is left.
func right(p api.Promo) bool {
	if !nameForm.MatchString(p.Id) || !nameOrNoneForm.MatchString(p.Group) || !nameOrNoneForm.MatchString(p.Code) {
		return false
	}
	if p.Priority < 0 || p.Priority > 1_000 || p.Least < 0 || p.Least > 10_000_000_000_000 || !scopeRight(p.Scope) {
		return false
	}
	is := false
	switch p.Kind {
	case 1:
		is, p.Rate = p.Rate >= 1 && p.Rate <= 10_000, 0
	case 2:
		is, p.Amount = p.Amount >= 1 && p.Amount <= 1_000_000_000, 0
	case 3:
		is = p.Buy >= 1 && p.Buy <= 100 && p.Get >= 1 && p.Get <= 100 && p.Rate >= 1 && p.Rate <= 10_000
		p.Buy, p.Get, p.Rate = 0, 0, 0
	case 4:
		is = partsRight(p.Parts) && p.Amount >= 0 && p.Amount <= 10_000_000_000_000 && nothing(p.Scope)
		p.Parts, p.Amount = nil, 0
	case 5, 6:
		is, p.Tiers = tiersRight(p.Tiers), nil
	case 7:
		is = p.Rate >= 1 && p.Rate <= 10_000 && nothing(p.Scope) && !p.Closes
		p.Rate = 0
	}
	return is && p.Rate == 0 && p.Amount == 0 && p.Buy == 0 && p.Get == 0 && len(p.Parts) == 0 && len(p.Tiers) == 0
}

func allRight(l []api.Promo) bool {
	if len(l) > 60 {
		return false
	}
	for i, p := range l {
		if !right(p) {
			return false
		}
		for _, other := range l[i+1:] {
			if other.Id == p.Id {
				return false
			}
		}
	}
	return true
}

// order takes, again and again, who is first of those that are left.
func order(l []api.Promo, codes []string) []int {
	left := make([]int, 0)
	for i, p := range l {
		if p.Code == "" || slices.Contains(codes, p.Code) {
			left = append(left, i)
		}
	}
	told := make([]int, 0)
	for len(left) > 0 {
		first := 0
		for n, i := range left {
			if ahead(l[i], l[left[first]]) {
				first = n
			}
		}
		told = append(told, left[first])
		left = slices.Delete(left, first, first+1)
	}
	return told
}

// ahead tells whether p stands ahead of q, wherever the two stood.
func ahead(p, q api.Promo) bool {
	return p.Priority > q.Priority || p.Priority == q.Priority && below(p.Id, q.Id)
}

// What the tests are made of.

func skus(l ...string) api.Scope { return api.Scope{Skus: l} }

func categories(l ...string) api.Scope { return api.Scope{Categories: l} }

func part(s api.Scope, count int) api.Part { return api.Part{Scope: s, Count: count} }

func tier(least, rate, amount int64) api.Tier {
	return api.Tier{Least: least, Rate: rate, Amount: amount}
}

// tiersOf is tiers from 0 on, n of them.
func tiersOf(n int) []api.Tier {
	l := make([]api.Tier, 0, n)
	for i := range n {
		l = append(l, tier(int64(i), 1, 0))
	}
	return l
}

// partsOf is n parts.
func partsOf(n int) []api.Part {
	l := make([]api.Part, 0, n)
	for range n {
		l = append(l, part(api.Scope{}, 1))
	}
	return l
}

// rising is n names that rise, with room for others between each two.
func rising(n int) []string {
	l := make([]string, 0, n)
	for i := range n {
		digits := strconv.Itoa(2*i + 1)
		l = append(l, "n-"+strings.Repeat("0", 9-len(digits))+digits)
	}
	return l
}

// plain is a promo of each Kind, with nothing that it need not have; none at 0.
func plain() []api.Promo {
	return []api.Promo{
		{},
		{Id: "a", Kind: api.Percent, Rate: 1},
		{Id: "b", Kind: api.Amount, Amount: 1},
		{Id: "c", Kind: api.BuyGet, Buy: 1, Get: 1, Rate: 1},
		{Id: "d", Kind: api.Bundle, Parts: []api.Part{part(api.Scope{}, 1)}},
		{Id: "e", Kind: api.Spend, Tiers: []api.Tier{tier(0, 1, 0)}},
		{Id: "f", Kind: api.Count, Tiers: []api.Tier{tier(0, 1, 0)}},
		{Id: "g", Kind: api.Shipping, Rate: 1},
	}
}

// full is a promo of each Kind, with as much as it may have; none at 0.
func full() []api.Promo {
	l := plain()
	names := rising(api.MaxScope)
	for kind := api.Percent; kind <= api.Shipping; kind++ {
		p := &l[kind]
		p.Id, p.Group, p.Code, p.Priority, p.Least = "abcdefghijk"+strconv.Itoa(kind), "zzzzzzzzzzzz", "000000000000", 1_000, api.MaxGross
		if kind != api.Shipping {
			p.Closes = true
			if kind != api.Bundle {
				p.Scope = api.Scope{Skus: slices.Clone(names), Categories: slices.Clone(names)}
			}
		}
	}
	l[1].Rate, l[2].Amount, l[7].Rate = api.MaxRate, api.MaxPrice, api.MaxRate
	l[3].Buy, l[3].Get, l[3].Rate = 100, 100, api.MaxRate
	l[4].Amount = api.MaxGross
	l[4].Parts = []api.Part{part(skus(names...), 100), part(categories(names...), 100), part(api.Scope{}, 1)}
	for kind := api.Spend; kind <= api.Count; kind++ {
		l[kind].Tiers = []api.Tier{tier(0, 0, 1), tier(1, 1, 0), tier(2, 10_000, 0), tier(3, 0, api.MaxGross), tier(4, 1, 1), tier(api.MaxGross, 10_000, api.MaxGross)}
	}
	return l
}

// copied is p in memory of its own, with nothing behind the ends of its lists.
func copied(p api.Promo) api.Promo {
	p.Scope = copiedScope(p.Scope)
	p.Parts, p.Tiers = slices.Clone(p.Parts), slices.Clone(p.Tiers)
	for i := range p.Parts {
		p.Parts[i].Scope = copiedScope(p.Parts[i].Scope)
	}
	return p
}

func copiedScope(s api.Scope) api.Scope {
	return api.Scope{Skus: slices.Clone(s.Skus), Categories: slices.Clone(s.Categories)}
}

func allCopied(l []api.Promo) []api.Promo {
	out := make([]api.Promo, 0, len(l))
	for _, p := range l {
		out = append(out, copied(p))
	}
	return out
}

// same is of what was copied: what copied keeps is nil where it was nil.
func same(a, b any) bool { return reflect.DeepEqual(a, b) }

// holdsRight holds Right against its words, and p against what it was.
func holdsRight(t *testing.T, p api.Promo) {
	t.Helper()
	was := copied(p)
	if got, want := promo.Right(p), right(was); got != want {
		t.Fatalf("Right(%+v): %v, want %v", was, got, want)
	}
	if !same(p, was) {
		t.Fatalf("Right(%+v) made %+v of it", was, p)
	}
}

func holdsAll(t *testing.T, l []api.Promo) {
	t.Helper()
	was := allCopied(l)
	if got, want := promo.All(l), allRight(was); got != want {
		t.Fatalf("All(%+v): %v, want %v", was, got, want)
	}
	if !same(allCopied(l), was) {
		t.Fatalf("All(%+v) made %+v of it", was, l)
	}
}

func holdsCodes(t *testing.T, l []string) {
	t.Helper()
	was := slices.Clone(l)
	if got, want := promo.Codes(l), namesRise(was, 4); got != want {
		t.Fatalf("Codes(%q): %v, want %v", was, got, want)
	}
	if !slices.Equal(l, was) {
		t.Fatalf("Codes(%q) made %q of it", was, l)
	}
}

func holdsOrder(t *testing.T, l []api.Promo, codes []string) {
	t.Helper()
	was, codesWere := allCopied(l), slices.Clone(codes)
	if got, want := promo.Order(l, codes), order(was, codesWere); !slices.Equal(got, want) {
		t.Fatalf("Order(%s, %q): %v, want %v", told(was), codesWere, got, want)
	}
	if !same(allCopied(l), was) || !slices.Equal(codes, codesWere) {
		t.Fatalf("Order(%s, %q) made %s, %q of them", told(was), codesWere, told(l), codes)
	}
}

// told is what Order asks of promos, in one line.
func told(l []api.Promo) string {
	parts := make([]string, 0, len(l))
	for _, p := range l[:min(len(l), 12)] {
		parts = append(parts, strconv.Quote(p.Id)+" of "+strconv.Itoa(p.Priority)+" by "+strconv.Quote(p.Code))
	}
	if len(l) > len(parts) {
		parts = append(parts, strconv.Itoa(len(l))+" in all")
	}
	return "{" + strings.Join(parts, ", ") + "}"
}

// lists calls f with each list of up to n of those things, a new one each time.
func lists[T any](n int, things []T, f func([]T)) {
	var longer func(l []T)
	longer = func(l []T) {
		f(slices.Clone(l))
		if len(l) == n {
			return
		}
		for _, x := range things {
			longer(append(l, x))
		}
	}
	longer(make([]T, 0, n))
}

// P12.1: Right

// turn is one thing that is made of a promo, and for which Kinds the plain promo so turned is right: a digit each.
type turn struct {
	name string
	to   func(p *api.Promo)
	of   string
}

const (
	every   = "1234567"
	none    = ""
	scoped  = "12356" // those that may have a Scope that names something
	rated   = "137"
	tiered  = "56"
	bundled = "4"
)

// heads turns what is the same for all Kinds.
func heads() []turn {
	return []turn{
		{"nothing", func(p *api.Promo) {}, every},
		{"an Id of one byte", func(p *api.Promo) { p.Id = "-" }, every},
		{"an Id of MaxName", func(p *api.Promo) { p.Id = "a-0123456789" }, every},
		{"an Id of one byte more", func(p *api.Promo) { p.Id = "a-0123456789x" }, none},
		{"an Id of none", func(p *api.Promo) { p.Id = "" }, none},
		{"an Id of a great letter", func(p *api.Promo) { p.Id = "A" }, none},
		{"an Id with a blank", func(p *api.Promo) { p.Id = "a b" }, none},
		{"an Id of a letter of two bytes", func(p *api.Promo) { p.Id = "é" }, none},
		{"an Id with a nought", func(p *api.Promo) { p.Id = "a\x00" }, none},
		{"a Group", func(p *api.Promo) { p.Group = "g" }, every},
		{"a Group of MaxName", func(p *api.Promo) { p.Group = "a-0123456789" }, every},
		{"a Group of one byte more", func(p *api.Promo) { p.Group = "a-0123456789x" }, none},
		{"a Group of a great letter", func(p *api.Promo) { p.Group = "G" }, none},
		{"a Group of a blank", func(p *api.Promo) { p.Group = " " }, none},
		{"a Group of a nought", func(p *api.Promo) { p.Group = "\x00" }, none},
		{"a Code", func(p *api.Promo) { p.Code = "k" }, every},
		{"a Code of MaxName", func(p *api.Promo) { p.Code = "a-0123456789" }, every},
		{"a Code of one byte more", func(p *api.Promo) { p.Code = "a-0123456789x" }, none},
		{"a Code of a great letter", func(p *api.Promo) { p.Code = "K" }, none},
		{"a Code of a blank", func(p *api.Promo) { p.Code = " " }, none},
		{"a Code of a nought", func(p *api.Promo) { p.Code = "\x00" }, none},
		{"one name for all three", func(p *api.Promo) { p.Id, p.Group, p.Code = "x", "x", "x" }, every},
		{"a Priority of 1", func(p *api.Promo) { p.Priority = 1 }, every},
		{"a Priority of 1,000", func(p *api.Promo) { p.Priority = 1_000 }, every},
		{"a Priority of one more", func(p *api.Promo) { p.Priority = 1_001 }, none},
		{"a Priority of one below", func(p *api.Promo) { p.Priority = -1 }, none},
		{"the greatest Priority", func(p *api.Promo) { p.Priority = math.MaxInt }, none},
		{"the least Priority", func(p *api.Promo) { p.Priority = math.MinInt }, none},
		{"a Priority of 2^32", func(p *api.Promo) { p.Priority = 1 << 32 }, none},
		{"a Least of 1", func(p *api.Promo) { p.Least = 1 }, every},
		{"a Least of MaxGross", func(p *api.Promo) { p.Least = api.MaxGross }, every},
		{"a Least of one more", func(p *api.Promo) { p.Least = api.MaxGross + 1 }, none},
		{"a Least of one below", func(p *api.Promo) { p.Least = -1 }, none},
		{"the greatest Least", func(p *api.Promo) { p.Least = math.MaxInt64 }, none},
		{"the least Least", func(p *api.Promo) { p.Least = math.MinInt64 }, none},
	}
}

// scopes turns the Scope and Closes.
func scopes() []turn {
	most, more := rising(api.MaxScope), rising(api.MaxScope+1)
	return []turn{
		{"a Scope of empty lists", func(p *api.Promo) { p.Scope = api.Scope{Skus: []string{}, Categories: []string{}} }, every},
		{"a Scope of Skus", func(p *api.Promo) { p.Scope = skus("a", "b") }, scoped},
		{"a Scope of Categories", func(p *api.Promo) { p.Scope = categories("a", "b") }, scoped},
		{"a Scope of both", func(p *api.Promo) { p.Scope = api.Scope{Skus: []string{"b"}, Categories: []string{"a"}} }, scoped},
		{"a Scope of MaxScope of each", func(p *api.Promo) { p.Scope = api.Scope{Skus: most, Categories: most} }, scoped},
		{"a Scope of one Sku more", func(p *api.Promo) { p.Scope = skus(more...) }, none},
		{"a Scope of one Category more", func(p *api.Promo) { p.Scope = categories(more...) }, none},
		{"a Scope of Skus that fall", func(p *api.Promo) { p.Scope = skus("b", "a") }, none},
		{"a Scope of Categories that are equal", func(p *api.Promo) { p.Scope = categories("a", "a") }, none},
		{"a Scope of a Sku that is no name", func(p *api.Promo) { p.Scope = skus("A") }, none},
		{"a Scope of a Category that is no name", func(p *api.Promo) { p.Scope = categories("") }, none},
		{"Closes", func(p *api.Promo) { p.Closes = true }, "123456"},
		{"Closes, and a Scope", func(p *api.Promo) { p.Closes, p.Scope = true, skus("a") }, scoped},
	}
}

// numbers turns Rate, Amount, Buy and Get.
func numbers() []turn {
	return []turn{
		{"no Rate", func(p *api.Promo) { p.Rate = 0 }, "2456"},
		{"a Rate of 1", func(p *api.Promo) { p.Rate = 1 }, rated},
		{"a Rate of MaxRate", func(p *api.Promo) { p.Rate = api.MaxRate }, rated},
		{"a Rate of one more", func(p *api.Promo) { p.Rate = api.MaxRate + 1 }, none},
		{"a Rate of one below", func(p *api.Promo) { p.Rate = -1 }, none},
		{"the greatest Rate", func(p *api.Promo) { p.Rate = math.MaxInt64 }, none},
		{"the least Rate", func(p *api.Promo) { p.Rate = math.MinInt64 }, none},
		{"a Rate of 2^32 and 1", func(p *api.Promo) { p.Rate = 1<<32 + 1 }, none},
		{"no Amount", func(p *api.Promo) { p.Amount = 0 }, "134567"},
		{"an Amount of 1", func(p *api.Promo) { p.Amount = 1 }, "24"},
		{"an Amount of MaxPrice", func(p *api.Promo) { p.Amount = api.MaxPrice }, "24"},
		{"an Amount of one more", func(p *api.Promo) { p.Amount = api.MaxPrice + 1 }, bundled},
		{"an Amount of MaxGross", func(p *api.Promo) { p.Amount = api.MaxGross }, bundled},
		{"an Amount of one beyond it", func(p *api.Promo) { p.Amount = api.MaxGross + 1 }, none},
		{"an Amount of one below", func(p *api.Promo) { p.Amount = -1 }, none},
		{"the greatest Amount", func(p *api.Promo) { p.Amount = math.MaxInt64 }, none},
		{"the least Amount", func(p *api.Promo) { p.Amount = math.MinInt64 }, none},
		{"no Buy", func(p *api.Promo) { p.Buy = 0 }, "124567"},
		{"a Buy of 1", func(p *api.Promo) { p.Buy = 1 }, "3"},
		{"a Buy of 100", func(p *api.Promo) { p.Buy = 100 }, "3"},
		{"a Buy of one more", func(p *api.Promo) { p.Buy = 101 }, none},
		{"a Buy of one below", func(p *api.Promo) { p.Buy = -1 }, none},
		{"the greatest Buy", func(p *api.Promo) { p.Buy = math.MaxInt }, none},
		{"the least Buy", func(p *api.Promo) { p.Buy = math.MinInt }, none},
		{"no Get", func(p *api.Promo) { p.Get = 0 }, "124567"},
		{"a Get of 1", func(p *api.Promo) { p.Get = 1 }, "3"},
		{"a Get of 100", func(p *api.Promo) { p.Get = 100 }, "3"},
		{"a Get of one more", func(p *api.Promo) { p.Get = 101 }, none},
		{"a Get of one below", func(p *api.Promo) { p.Get = -1 }, none},
		{"the greatest Get", func(p *api.Promo) { p.Get = math.MaxInt }, none},
		{"the least Get", func(p *api.Promo) { p.Get = math.MinInt }, none},
		{"a Rate and an Amount", func(p *api.Promo) { p.Rate, p.Amount = 1, 1 }, none},
		{"a Rate and an Amount that outweigh each other", func(p *api.Promo) { p.Rate, p.Amount = 1, -1 }, none},
	}
}

// partLists turns Parts.
func partLists() []turn {
	parts := func(l ...api.Part) func(p *api.Promo) { return func(p *api.Promo) { p.Parts = l } }
	all := api.Scope{}
	most, more := rising(api.MaxScope), rising(api.MaxScope+1)
	return []turn{
		{"no Parts", parts(), "123567"},
		{"Parts of an empty list", func(p *api.Promo) { p.Parts = []api.Part{} }, "123567"},
		{"MaxParts", parts(partsOf(api.MaxParts)...), bundled},
		{"one part more", parts(partsOf(api.MaxParts + 1)...), none},
		{"many parts", parts(partsOf(100)...), none},
		{"a part of nothing", parts(api.Part{}), none},
		{"a part of 1", parts(part(skus("a"), 1)), bundled},
		{"a part of 100", parts(part(categories("a"), 100)), bundled},
		{"a part of one more", parts(part(all, 101)), none},
		{"a part of none", parts(part(all, 0)), none},
		{"a part of one below", parts(part(all, -1)), none},
		{"a part of the most", parts(part(all, math.MaxInt)), none},
		{"a part of the least", parts(part(all, math.MinInt)), none},
		{"a part whose Scope is full", parts(part(api.Scope{Skus: most, Categories: most}, 1)), bundled},
		{"a part of one Sku more", parts(part(skus(more...), 1)), none},
		{"a part of one Category more", parts(part(categories(more...), 1)), none},
		{"a part whose Skus fall", parts(part(skus("b", "a"), 1)), none},
		{"a part whose Categories are equal", parts(part(categories("a", "a"), 1)), none},
		{"a part of a Sku that is no name", parts(part(skus("A"), 1)), none},
		{"a part of a Category that is no name", parts(part(categories(""), 1)), none},
		{"parts that are equal", parts(part(skus("a"), 2), part(skus("a"), 2), part(skus("a"), 2)), bundled},
		{"parts, the first of none", parts(part(all, 0), part(all, 1), part(all, 1)), none},
		{"parts, the last of too many", parts(part(all, 1), part(all, 1), part(all, 101)), none},
		{"parts, the second with a wrong Scope", parts(part(all, 1), part(skus(""), 1), part(all, 1)), none},
		{"parts, the last with a wrong Scope", parts(part(all, 1), part(all, 1), part(categories("b", "a"), 1)), none},
	}
}

// tierLists turns Tiers.
func tierLists() []turn {
	tiers := func(l ...api.Tier) func(p *api.Promo) { return func(p *api.Promo) { p.Tiers = l } }
	const most = api.MaxGross
	return []turn{
		{"no Tiers", tiers(), "12347"},
		{"Tiers of an empty list", func(p *api.Promo) { p.Tiers = []api.Tier{} }, "12347"},
		{"MaxTiers", tiers(tiersOf(api.MaxTiers)...), tiered},
		{"one tier more", tiers(tiersOf(api.MaxTiers + 1)...), none},
		{"many tiers", tiers(tiersOf(100)...), none},
		{"a tier from 0 on", tiers(tier(0, 1, 0)), tiered},
		{"a tier from one below on", tiers(tier(-1, 1, 0)), none},
		{"a tier from the least on", tiers(tier(math.MinInt64, 1, 0)), none},
		{"a tier from MaxGross on", tiers(tier(most, 1, 0)), tiered},
		{"a tier from one more on", tiers(tier(most+1, 1, 0)), none},
		{"a tier from the greatest on", tiers(tier(math.MaxInt64, 1, 0)), none},
		{"a tier of nothing", tiers(api.Tier{}), none},
		{"a tier that takes nothing", tiers(tier(7, 0, 0)), none},
		{"a tier of a Rate alone", tiers(tier(7, 1, 0)), tiered},
		{"a tier of an Amount alone", tiers(tier(7, 0, 1)), tiered},
		{"a tier of both", tiers(tier(7, 1, 1)), tiered},
		{"a tier of MaxRate", tiers(tier(7, api.MaxRate, 0)), tiered},
		{"a tier of a Rate one more", tiers(tier(7, api.MaxRate+1, 0)), none},
		{"a tier of a Rate one more, and an Amount", tiers(tier(7, api.MaxRate+1, 1)), none},
		{"a tier of a Rate below", tiers(tier(7, -1, 0)), none},
		{"a tier of a Rate below, and an Amount", tiers(tier(7, -1, 1)), none},
		{"a tier of an Amount of MaxGross", tiers(tier(7, 0, most)), tiered},
		{"a tier of an Amount one more", tiers(tier(7, 0, most+1)), none},
		{"a tier of an Amount one more, and a Rate", tiers(tier(7, 1, most+1)), none},
		{"a tier of an Amount below", tiers(tier(7, 0, -1)), none},
		{"a tier of an Amount below, and a Rate", tiers(tier(7, 1, -1)), none},
		{"a tier of both at their most", tiers(tier(most, api.MaxRate, most)), tiered},
		{"tiers one apart", tiers(tier(3, 1, 0), tier(4, 1, 0)), tiered},
		{"tiers that are equal", tiers(tier(3, 1, 0), tier(3, 1, 0)), none},
		{"tiers from 0 on that are equal", tiers(tier(0, 1, 0), tier(0, 2, 0)), none},
		{"tiers from MaxGross on that are equal", tiers(tier(most, 1, 0), tier(most, 2, 0)), none},
		{"tiers that fall", tiers(tier(4, 1, 0), tier(3, 1, 0)), none},
		{"tiers, the last two equal", tiers(tier(3, 1, 0), tier(4, 1, 0), tier(4, 2, 0)), none},
		{"tiers, the last two falling", tiers(tier(3, 1, 0), tier(5, 1, 0), tier(4, 1, 0)), none},
		{"tiers, the last behind MaxGross", tiers(tier(most-1, 1, 0), tier(most, 1, 0), tier(most+1, 1, 0)), none},
		{"tiers, the first below 0", tiers(tier(-1, 1, 0), tier(0, 1, 0)), none},
		{"tiers, the first taking nothing", tiers(tier(3, 0, 0), tier(4, 1, 0)), none},
		{"tiers, the last taking nothing", tiers(tier(3, 1, 0), tier(4, 0, 0)), none},
		{"tiers that take less and less", tiers(tier(3, 9, 9), tier(4, 5, 0), tier(5, 0, 2)), tiered},
	}
}

func turns() []turn {
	return slices.Concat(heads(), scopes(), numbers(), partLists(), tierLists())
}

func TestRight(t *testing.T) {
	for _, x := range turns() {
		for kind := api.Percent; kind <= api.Shipping; kind++ {
			p := plain()[kind]
			x.to(&p)
			if got, want := promo.Right(p), strings.Contains(x.of, strconv.Itoa(kind)); got != want {
				t.Errorf("%s, of the Kind %d: Right(%+v): %v, want %v", x.name, kind, p, got, want)
			}
			holdsRight(t, p)
		}
	}
}

// With all that it may have at its most, each one is right.
func TestRightOfAsMuchAsMayBe(t *testing.T) {
	for kind, p := range full()[1:] {
		if !promo.Right(p) {
			t.Errorf("Right(%+v) of the Kind %d: false", p, kind+1)
		}
		holdsRight(t, p)
	}
}

func TestRightOfNothing(t *testing.T) {
	if promo.Right(api.Promo{}) || promo.Right(api.Promo{Id: "a"}) {
		t.Error("a promo of no Kind is right")
	}
}

// Of a Kind that there is not nothing is right: neither what a Kind would ask, nor nothing at all.
func TestRightOfOtherKinds(t *testing.T) {
	for _, kind := range []int{math.MinInt, -1 << 32, -8, -7, -1, 0, 8, 9, 15, 16, 100, 1 << 32, 1<<32 + 1, 1<<32 + 7, math.MaxInt} {
		for _, p := range slices.Concat(plain(), full()) {
			p.Id, p.Kind = "a", kind
			if promo.Right(p) {
				t.Errorf("Right(%+v) of the Kind %d: true", p, kind)
			}
			holdsRight(t, p)
		}
	}
}

// Each one of one Kind, as if it were of another one.
func TestRightOfEachKindAsAnother(t *testing.T) {
	alike := map[[2]int]bool{{1, 7}: true, {7, 1}: true, {5, 6}: true, {6, 5}: true}
	for from := api.Percent; from <= api.Shipping; from++ {
		for to := api.Percent; to <= api.Shipping; to++ {
			p := plain()[from]
			p.Kind = to
			if got, want := promo.Right(p), from == to || alike[[2]int{from, to}]; got != want {
				t.Errorf("Right of what is right of the Kind %d, as the Kind %d: %v, want %v", from, to, got, want)
			}
			q := full()[from]
			q.Kind = to
			holdsRight(t, q)
		}
	}
}

// Each Kind with each two turns, one behind the other.
func TestRightOfTwoTurns(t *testing.T) {
	all := turns()
	for kind := api.Percent; kind <= api.Shipping; kind++ {
		for _, base := range []api.Promo{plain()[kind], full()[kind]} {
			for _, first := range all {
				for _, second := range all {
					p := base
					first.to(&p)
					second.to(&p)
					if got, want := promo.Right(p), right(p); got != want {
						t.Fatalf("%s, then %s, of the Kind %d: Right(%+v): %v, want %v", first.name, second.name, kind, p, got, want)
					}
				}
			}
		}
	}
}

// Each of the things that a Kind may name or not: all that are there and are not, together, of each Kind.
func TestRightOfEachThingsTogether(t *testing.T) {
	have := []func(p *api.Promo){
		func(p *api.Promo) { p.Rate = 5 },
		func(p *api.Promo) { p.Amount = 5 },
		func(p *api.Promo) { p.Buy = 5 },
		func(p *api.Promo) { p.Get = 5 },
		func(p *api.Promo) { p.Parts = partsOf(2) },
		func(p *api.Promo) { p.Tiers = tiersOf(2) },
		func(p *api.Promo) { p.Scope.Skus = []string{"s"} },
		func(p *api.Promo) { p.Scope.Categories = []string{"s"} },
		func(p *api.Promo) { p.Closes = true },
	}
	for kind := api.Percent; kind <= api.Shipping; kind++ {
		rights := 0
		for bits := range 1 << len(have) {
			p := api.Promo{Id: "a", Kind: kind}
			for i, f := range have {
				if bits>>i&1 == 1 {
					f(&p)
				}
			}
			holdsRight(t, p)
			if promo.Right(p) {
				rights++
			}
		}
		if want := []int{0, 8, 8, 8, 4, 8, 8, 1}[kind]; rights != want { // what is free: two lists of Scope, Closes; of Bundle Closes, Amount
			t.Errorf("of the Kind %d %d are right, want %d", kind, rights, want)
		}
	}
}

// One tier that is turned, and one part, at each place of lists of each length.
func TestRightOfOneWrongTierOrPart(t *testing.T) {
	tierTurns := []func(l []api.Tier, i int){
		func(l []api.Tier, i int) { l[i].Least = -1 },
		func(l []api.Tier, i int) { l[i].Least = api.MaxGross },
		func(l []api.Tier, i int) { l[i].Least = api.MaxGross + 1 },
		func(l []api.Tier, i int) { l[i].Least = l[max(i-1, 0)].Least },
		func(l []api.Tier, i int) { l[i].Least = l[0].Least },
		func(l []api.Tier, i int) { l[i].Least-- },
		func(l []api.Tier, i int) { l[i].Least++ },
		func(l []api.Tier, i int) { l[i].Rate, l[i].Amount = 0, 0 },
		func(l []api.Tier, i int) { l[i].Rate, l[i].Amount = 0, 1 },
		func(l []api.Tier, i int) { l[i].Rate = api.MaxRate },
		func(l []api.Tier, i int) { l[i].Rate = api.MaxRate + 1 },
		func(l []api.Tier, i int) { l[i].Amount = api.MaxGross },
		func(l []api.Tier, i int) { l[i].Amount = api.MaxGross + 1 },
		func(l []api.Tier, i int) { l[i].Amount = -1 },
	}
	for n := 1; n <= api.MaxTiers+1; n++ {
		for i := range n {
			for _, f := range tierTurns {
				for kind := api.Spend; kind <= api.Count; kind++ {
					p := plain()[kind]
					p.Tiers = tiersOf(n)
					f(p.Tiers, i)
					holdsRight(t, p)
				}
			}
		}
	}
	for n := 1; n <= api.MaxParts+1; n++ {
		for i := range n {
			for _, turned := range []api.Part{part(api.Scope{}, 0), part(api.Scope{}, 100), part(api.Scope{}, 101), part(skus("a", "b"), 1), part(skus("a", "a"), 1), part(categories("A"), 1)} {
				p := plain()[api.Bundle]
				p.Parts = partsOf(n)
				p.Parts[i] = turned
				holdsRight(t, p)
			}
		}
	}
}

func TestRightOfAnyTiers(t *testing.T) {
	r := rand.New(rand.NewSource(121))
	rights := 0
	for range 20_000 {
		p := plain()[api.Spend+r.Intn(2)]
		p.Tiers = make([]api.Tier, r.Intn(5))
		for i := range p.Tiers {
			p.Tiers[i] = tier(int64(4*i+r.Intn(9)-1), int64(r.Intn(12)-1), int64(r.Intn(12)-1))
		}
		holdsRight(t, p)
		if promo.Right(p) {
			rights++
		}
	}
	if rights < 1_000 || rights > 19_000 {
		t.Errorf("%d of 20,000 are right: this says little", rights)
	}
}

// P12.1: All

// many is n promos that are right, of any Kinds, none of the Id of another one; their Ids neither rise nor fall.
func many(n int) []api.Promo {
	l := make([]api.Promo, 0, n)
	for i := range n {
		p := slices.Concat(plain()[1:], full()[1:])[i%14]
		p.Id = "p-" + strconv.Itoa(i*37%n) + "-" + strconv.Itoa(i)
		l = append(l, p)
	}
	return l
}

func TestAll(t *testing.T) {
	a, b := api.Promo{Id: "a", Kind: api.Percent, Rate: 1}, api.Promo{Id: "b", Kind: api.Shipping, Rate: 1}
	a2 := api.Promo{Id: "a", Kind: api.Amount, Amount: 7, Priority: 5, Code: "k"}
	wrong := api.Promo{Id: "c", Kind: api.Percent}
	for name, x := range map[string]struct {
		l    []api.Promo
		want bool
	}{
		"none":                             {nil, true},
		"an empty list":                    {[]api.Promo{}, true},
		"one":                              {[]api.Promo{a}, true},
		"two":                              {[]api.Promo{a, b}, true},
		"two whose Ids fall":               {[]api.Promo{b, a}, true},
		"one of each Kind":                 {plain()[1:], true},
		"one of each Kind, in full":        {full()[1:], true},
		"the same twice":                   {[]api.Promo{a, a}, false},
		"two of one Id alone":              {[]api.Promo{a, a2}, false},
		"two of one Id, apart":             {[]api.Promo{a, b, a2}, false},
		"two of one Id at the end":         {[]api.Promo{b, a, a2}, false},
		"one that is not right":            {[]api.Promo{wrong}, false},
		"one that is not right, the first": {[]api.Promo{wrong, a, b}, false},
		"one that is not right, between":   {[]api.Promo{a, wrong, b}, false},
		"one that is not right, the last":  {[]api.Promo{a, b, wrong}, false},
		"one without an Id":                {[]api.Promo{a, {}, b}, false},
		"MaxPromos":                        {many(api.MaxPromos), true},
		"one more":                         {many(api.MaxPromos + 1), false},
		"many more":                        {many(10 * api.MaxPromos), false},
		"one Group and one Code of all":    {full()[1:4], true},
	} {
		if got := promo.All(x.l); got != x.want {
			t.Errorf("%s: All: %v, want %v", name, got, x.want)
		}
		holdsAll(t, x.l)
	}
}

func TestAllOfEachNumber(t *testing.T) {
	for n := range 2 * api.MaxPromos {
		if got, want := promo.All(many(n)), n <= api.MaxPromos; got != want {
			t.Errorf("All of %d: %v, want %v", n, got, want)
		}
	}
}

// Two of one Id at each two places, and one that is not right at each place, of lists of some lengths.
func TestAllOfTwoOfOneIdAnywhere(t *testing.T) {
	for _, n := range []int{2, 3, 14, 31, api.MaxPromos} {
		for i := range n {
			l := many(n)
			l[i].Least = -1
			if promo.All(l) {
				t.Fatalf("All of %d, of which the one at %d is not right: true", n, i)
			}
			for k := range i {
				l := many(n)
				l[i].Id = l[k].Id
				if promo.All(l) {
					t.Fatalf("All of %d, of which those at %d and %d have one Id: true", n, k, i)
				}
			}
		}
	}
}

func TestAllOfLittleLists(t *testing.T) {
	p := func(id string, rate int64) api.Promo { return api.Promo{Id: id, Kind: api.Percent, Rate: rate} }
	lists(4, []api.Promo{p("a", 1), p("a", 2), p("aa", 1), p("b", 1), p("b", 0), p("c", 1), p("", 1)}, func(l []api.Promo) { holdsAll(t, l) })
}

// P12.1: Codes

func TestCodes(t *testing.T) {
	for name, x := range map[string]struct {
		l    []string
		want bool
	}{
		"none":                         {nil, true},
		"an empty list":                {[]string{}, true},
		"one":                          {[]string{"a"}, true},
		"MaxCodes":                     {[]string{"a", "b", "c", "d"}, true},
		"one more":                     {[]string{"a", "b", "c", "d", "e"}, false},
		"many":                         {rising(100), false},
		"two that are equal":           {[]string{"a", "a"}, false},
		"two that fall":                {[]string{"b", "a"}, false},
		"the last two equal":           {[]string{"a", "b", "c", "c"}, false},
		"the first two fall":           {[]string{"b", "a", "c", "d"}, false},
		"the last two fall":            {[]string{"a", "b", "d", "c"}, false},
		"the first again as the last":  {[]string{"a", "b", "a"}, false},
		"no byte":                      {[]string{""}, false},
		"no byte ahead of a name":      {[]string{"", "a"}, false},
		"a great letter":               {[]string{"A", "a"}, false},
		"a great letter alone":         {[]string{"X"}, false},
		"a blank":                      {[]string{"a", "a b"}, false},
		"behind the letters":           {[]string{"a", "{"}, false},
		"a letter of two bytes":        {[]string{"a", "é"}, false},
		"a nought behind a name":       {[]string{"a", "a\x00"}, false},
		"of MaxName":                   {[]string{"abcdefghijkl"}, true},
		"of one byte more":             {[]string{"abcdefghijklm"}, false},
		"a beginning of the next":      {[]string{"a", "a-", "a-0", "aa"}, true},
		"what goes on ahead of it":     {[]string{"aa", "a"}, false},
		"hyphens, digits, letters":     {[]string{"-", "0", "9", "a"}, true},
		"digits ahead of hyphens":      {[]string{"0", "-"}, false},
		"a longer one that is below":   {[]string{"10", "9"}, true},
		"as numbers they would rise":   {[]string{"9", "10"}, false},
		"the last of four is no name":  {[]string{"a", "b", "c", "d!"}, false},
		"the first of four is no name": {[]string{"!", "b", "c", "d"}, false},
	} {
		if got := promo.Codes(x.l); got != x.want {
			t.Errorf("%s: Codes(%q): %v, want %v", name, x.l, got, x.want)
		}
		holdsCodes(t, x.l)
	}
}

func TestCodesOfEachNumber(t *testing.T) {
	l := rising(3 * api.MaxCodes)
	for n := range len(l) + 1 {
		if got, want := promo.Codes(l[:n]), n <= api.MaxCodes; got != want {
			t.Errorf("Codes of %d: %v, want %v", n, got, want)
		}
	}
}

func TestCodesOfAllLittleLists(t *testing.T) {
	lists(5, []string{"", "-", "0", "a", "aa", "b", "A"}, func(l []string) { holdsCodes(t, l) })
}

// P12.1: Order

func by(id string, priority int, code string) api.Promo {
	return api.Promo{Id: id, Priority: priority, Code: code}
}

func TestOrder(t *testing.T) {
	mixed := []api.Promo{by("b", 5, ""), by("a", 5, ""), by("z", 9, "k"), by("y", 7, "m"), by("x", 1, ""), by("w", 7, "m")}
	odd := []api.Promo{by("", -3, ""), by("A", 1<<40, ""), by("é", 0, "K"), by("", -3, "a b"), by("\xff", 0, "")}
	for name, x := range map[string]struct {
		l     []api.Promo
		codes []string
		want  []int
	}{
		"none":                                    {nil, nil, nil},
		"none, with codes":                        {nil, []string{"a"}, nil},
		"empty lists":                             {[]api.Promo{}, []string{}, nil},
		"one":                                     {[]api.Promo{by("a", 0, "")}, nil, []int{0}},
		"the example":                             {[]api.Promo{by("b", 5, ""), by("a", 5, "")}, nil, []int{1, 0}},
		"the greater Priority first":              {[]api.Promo{by("a", 1, ""), by("b", 3, ""), by("c", 2, "")}, nil, []int{1, 2, 0}},
		"Priority over Id":                        {[]api.Promo{by("a", 1, ""), by("z", 2, "")}, nil, []int{1, 0}},
		"all of one Priority, Ids fall":           {[]api.Promo{by("c", 4, ""), by("b", 4, ""), by("a", 4, "")}, nil, []int{2, 1, 0}},
		"all of one Priority, Ids rise":           {[]api.Promo{by("a", 4, ""), by("b", 4, ""), by("c", 4, "")}, nil, []int{0, 1, 2}},
		"of one Id and Priority the first":        {[]api.Promo{by("a", 4, ""), by("a", 4, ""), by("a", 4, "")}, nil, []int{0, 1, 2}},
		"of one Id, apart":                        {[]api.Promo{by("b", 4, ""), by("a", 4, ""), by("c", 4, ""), by("a", 4, "")}, nil, []int{1, 3, 0, 2}},
		"of one Id, Priority rising":              {[]api.Promo{by("a", 1, ""), by("a", 2, ""), by("a", 3, "")}, nil, []int{2, 1, 0}},
		"of one Id, one by a code":                {[]api.Promo{by("a", 4, "k"), by("a", 4, "")}, []string{"k"}, []int{0, 1}},
		"a beginning of an Id first":              {[]api.Promo{by("ab", 0, ""), by("a", 0, ""), by("a-", 0, "")}, nil, []int{1, 2, 0}},
		"Ids as texts, not as numbers":            {[]api.Promo{by("9", 0, ""), by("10", 0, "")}, nil, []int{1, 0}},
		"no codes":                                {mixed, nil, []int{1, 0, 4}},
		"one code":                                {mixed, []string{"k"}, []int{2, 1, 0, 4}},
		"a code of two":                           {mixed, []string{"m"}, []int{5, 3, 1, 0, 4}},
		"both codes":                              {mixed, []string{"k", "m"}, []int{2, 5, 3, 1, 0, 4}},
		"codes that fall":                         {mixed, []string{"m", "k"}, []int{2, 5, 3, 1, 0, 4}},
		"a code that stands there twice":          {mixed, []string{"k", "k", "k"}, []int{2, 1, 0, 4}},
		"codes that none asks for":                {mixed, []string{"a", "kk", "K", "m "}, []int{1, 0, 4}},
		"codes among others":                      {mixed, []string{"a", "k", "l", "m", "z"}, []int{2, 5, 3, 1, 0, 4}},
		"no byte as a code":                       {mixed, []string{""}, []int{1, 0, 4}},
		"no byte and a code":                      {mixed, []string{"", "k"}, []int{2, 1, 0, 4}},
		"an Id as a code":                         {mixed, []string{"z", "y"}, []int{1, 0, 4}},
		"more than MaxCodes, the last":            {mixed, append(rising(50), "k"), []int{2, 1, 0, 4}},
		"none that needs no code":                 {[]api.Promo{by("a", 0, "k"), by("b", 0, "m")}, nil, []int{}},
		"what may not be":                         {odd, nil, []int{1, 4, 0}},
		"what may not be, by codes that are none": {odd, []string{"K", "a b"}, []int{1, 2, 4, 0, 3}},
		"Priorities at their ends":                {[]api.Promo{by("a", math.MinInt, ""), by("b", math.MaxInt, ""), by("c", 0, ""), by("d", math.MinInt+1, ""), by("e", math.MaxInt-1, "")}, nil, []int{1, 4, 2, 3, 0}},
		"Priorities that 53 bits do not tell":     {[]api.Promo{by("a", 1<<53, ""), by("b", 1<<53+1, "")}, nil, []int{1, 0}},
	} {
		if got := promo.Order(x.l, x.codes); !slices.Equal(got, x.want) {
			t.Errorf("%s: Order(%s, %q): %v, want %v", name, told(x.l), x.codes, got, x.want)
		}
		holdsOrder(t, x.l, x.codes)
	}
}

// Whether a promo is right, and what else it has, plays no part.
func TestOrderAsksForIdPriorityAndCodeAlone(t *testing.T) {
	l := []api.Promo{by("c", 1, ""), by("b", 2, "k"), by("a", 1, ""), by("d", 9, "m")}
	want := promo.Order(l, []string{"k"})
	if !slices.Equal(want, []int{1, 2, 0}) {
		t.Fatalf("Order: %v, want 1, 2, 0", want)
	}
	for _, x := range turns() {
		for _, base := range slices.Concat(plain(), full()) {
			turned := allCopied(l)
			for i := range turned {
				p := base
				if i%2 == 0 {
					x.to(&p)
				}
				p.Id, p.Priority, p.Code = l[i].Id, l[i].Priority, l[i].Code
				turned[i] = p
			}
			if got := promo.Order(turned, []string{"k"}); !slices.Equal(got, want) {
				t.Fatalf("%s: Order(%+v): %v, want %v", x.name, turned, got, want)
			}
		}
	}
}

// All lists of up to three of few Ids, Priorities and Codes, with all kinds of codes.
func TestOrderOfAllLittleLists(t *testing.T) {
	var few []api.Promo
	for _, id := range []string{"", "a", "ab", "b"} {
		for priority := range 2 {
			for _, code := range []string{"", "k", "m"} {
				few = append(few, by(id, priority, code))
			}
		}
	}
	codes := [][]string{nil, {""}, {"k"}, {"m", "k"}, {"k", "q", "k"}}
	lists(3, few, func(l []api.Promo) {
		for _, c := range codes {
			holdsOrder(t, l, c)
		}
	})
}

func TestOrderOfAnyOnes(t *testing.T) {
	r := rand.New(rand.NewSource(122))
	texts := []string{"", "", "a", "a-", "aa", "b", "A", "é", "abcdefghijkl", "abcdefghijklm"}
	priorities := []int{math.MinInt, -1, 0, 0, 1, 5, 5, 1_000, 1_001, math.MaxInt}
	for range 10_000 {
		l := make([]api.Promo, r.Intn(20))
		for i := range l {
			l[i] = by(texts[r.Intn(len(texts))], priorities[r.Intn(len(priorities))], texts[r.Intn(len(texts))])
		}
		codes := make([]string, r.Intn(5))
		for i := range codes {
			codes[i] = texts[r.Intn(len(texts))]
		}
		holdsOrder(t, l, codes)
	}
}

// As many as no list that is right has, with as many codes.
func TestOrderOfMany(t *testing.T) {
	const n = 20_000
	names := rising(n)
	l := make([]api.Promo, 0, n)
	for i := range n {
		l = append(l, by(names[n-1-i], i%7, names[i/2]))
	}
	want := make([]int, 0, n)
	for priority := 6; priority >= 0; priority-- {
		for i := n - 1; i >= 0; i-- {
			if i%7 == priority {
				want = append(want, i)
			}
		}
	}
	if got := promo.Order(l, names); !slices.Equal(got, want) {
		t.Errorf("Order of %d is another one", n)
	}
	if got := promo.Order(l, rising(2 * n)[n:]); len(got) != 0 {
		t.Errorf("Order of %d, with codes of none of them, tells of %d", n, len(got))
	}
}

// What follows

// More codes bring more promos, and turn no order: what was told stands in what is told now, in the same order, and what came in between asked for a code that is new.
func TestMoreCodesBringMoreAndTurnNoOrder(t *testing.T) {
	r := rand.New(rand.NewSource(123))
	texts := []string{"", "a", "b", "c", "d"}
	for range 3_000 {
		l := make([]api.Promo, r.Intn(15))
		for i := range l {
			l[i] = by(texts[r.Intn(len(texts))], r.Intn(3), texts[r.Intn(len(texts))])
		}
		var codes []string
		was := promo.Order(l, codes)
		for _, n := range r.Perm(len(texts)) {
			code := texts[n]
			codes = slices.Insert(codes, r.Intn(len(codes)+1), code)
			now := promo.Order(l, codes)
			stayed := make([]int, 0, len(now))
			for _, i := range now {
				if code == "" || l[i].Code != code {
					stayed = append(stayed, i)
				}
			}
			if !slices.Equal(stayed, was) {
				t.Fatalf("%s: %v ahead of the code %q, %v with it", told(l), was, code, now)
			}
			was = now
		}
		if len(was) != len(l) {
			t.Fatalf("%s: with all codes %v", told(l), was)
		}
	}
}

// What holds everywhere

// roomy is a promo of each Kind, whose lists have room behind their ends, with things in it that may not be, and the rooms of all of them.
func roomy() ([]api.Promo, [][]string, [][]api.Part, [][]api.Tier) {
	texts := [][]string{{"a", "b", "a", "A"}, {"x", "y", "", "x"}, {"c", "c", "\x00"}, {"z", "b"}}
	parts := [][]api.Part{{part(api.Scope{Skus: texts[2][:1], Categories: texts[3][:1]}, 1), part(api.Scope{Skus: texts[2][:1]}, 2), part(skus("A"), 1), part(api.Scope{}, 0)}}
	tiers := [][]api.Tier{{tier(3, 1, 0), tier(4, 0, 1), tier(4, 0, 0), tier(-1, -1, -1)}}
	l := plain()
	for kind := range l {
		l[kind].Scope = api.Scope{Skus: texts[0][:0], Categories: texts[1][:0]}
		l[kind].Parts, l[kind].Tiers = parts[0][:0], tiers[0][:0]
	}
	for _, kind := range []int{api.Percent, api.Amount, api.BuyGet, api.Spend, api.Count} {
		l[kind].Scope = api.Scope{Skus: texts[0][:2], Categories: texts[1][:2]}
	}
	l[api.Bundle].Parts = parts[0][:2]
	l[api.Spend].Tiers, l[api.Count].Tiers = tiers[0][:2], tiers[0][:1]
	return l, texts, parts, tiers
}

// What is handed in stays, with the room behind its end (R3); and what stands in that room plays no part.
func TestTheRoomBehindLists(t *testing.T) {
	l, texts, parts, tiers := roomy()
	room := append(slices.Clone(l[1:]), api.Promo{}, l[1], api.Promo{Id: "q", Code: "k", Priority: 9})
	codeRoom := []string{"a", "b", "a", "k", ""}
	wereL, wereTexts, wereParts, wereTiers := roomy()
	roomWas, codesWere := append(slices.Clone(wereL[1:]), api.Promo{}, wereL[1], api.Promo{Id: "q", Code: "k", Priority: 9}), slices.Clone(codeRoom)

	for kind, p := range room[:7] {
		if !promo.Right(p) {
			t.Errorf("Right of the Kind %d, with room behind its lists: false", kind+1)
		}
	}
	if !promo.All(room[:7]) || !promo.All(room[:0]) || promo.All(room[:8]) {
		t.Error("All asks what stands behind an end, or not what stands ahead of it")
	}
	if !promo.Codes(codeRoom[:2]) || !promo.Codes(codeRoom[:0]) || promo.Codes(codeRoom[:3]) {
		t.Error("Codes asks what stands behind an end, or not what stands ahead of it")
	}
	if got, want := promo.Order(room[:3], codeRoom[:2]), []int{0, 1, 2}; !slices.Equal(got, want) {
		t.Errorf("Order with room behind: %v, want %v", got, want)
	}
	if got, want := promo.Order(room[6:], codeRoom[:3]), []int{1, 2, 0}; !slices.Equal(got, want) {
		t.Errorf("Order of the last ones, codes with room behind: %v, want %v", got, want)
	}
	if got := promo.Order(room[:0], codeRoom[:0]); len(got) != 0 {
		t.Errorf("Order of nothing with room behind: %v", got)
	}

	if !same(room, roomWas) || !slices.Equal(codeRoom, codesWere) {
		t.Errorf("promos and codes with the room behind: %+v, %q, want %+v, %q", room, codeRoom, roomWas, codesWere)
	}
	if !same(texts, wereTexts) || !same(parts, wereParts) || !same(tiers, wereTiers) {
		t.Errorf("the lists of promos with the room behind: %q, %+v, %+v, want %q, %+v, %+v", texts, parts, tiers, wereTexts, wereParts, wereTiers)
	}
}

// What is handed out is new memory: who writes into it, or into the room behind it, changes nothing that was handed in, and nothing that is told later (R3).
func TestAnOrderIsNewMemory(t *testing.T) {
	l, codes := full()[1:], []string{"000000000000", "k"}
	want := []int{0, 1, 2, 3, 4, 5, 6}
	wasL, wasCodes := allCopied(l), slices.Clone(codes)
	other := promo.Order(l, codes)
	got := promo.Order(l, codes)
	room := got[:cap(got)]
	for i := range room {
		room[i] = -1
	}
	_ = append(got, -2, -2, -2)
	if !slices.Equal(other, want) {
		t.Errorf("an order, once another was written to: %v, want %v", other, want)
	}
	if again := promo.Order(l, codes); !slices.Equal(again, want) {
		t.Errorf("an order that is told behind one that was written to: %v, want %v", again, want)
	}
	if !same(l, wasL) || !slices.Equal(codes, wasCodes) {
		t.Error("who writes into an order changes what was handed in")
	}
}

// What is handed in is not kept: who writes into it later changes no order, and is asked anew (R3).
func TestWhatIsHandedInIsNotKept(t *testing.T) {
	l, codes := []api.Promo{by("c", 1, ""), by("b", 2, "k"), by("a", 1, "")}, []string{"k"}
	got := promo.Order(l, codes)
	l[0], l[1], l[2], codes[0] = by("a", 7, "q"), by("b", 0, ""), by("c", 9, ""), "x"
	if want := []int{1, 2, 0}; !slices.Equal(got, want) {
		t.Errorf("an order, once what was handed in was written to: %v, want %v", got, want)
	}
	if got, want := promo.Order(l, codes), []int{2, 1}; !slices.Equal(got, want) {
		t.Errorf("Order(%s, %q): %v, want %v", told(l), codes, got, want)
	}
	p := plain()[api.Spend]
	all, texts := []api.Promo{p}, []string{"a", "b"}
	if !promo.Right(p) || !promo.All(all) || !promo.Codes(texts) {
		t.Error("Right, All and Codes of what is right")
	}
	p.Tiers[0].Rate, texts[1] = 0, "a"
	if promo.Right(p) || promo.All(all) || promo.Codes(texts) {
		t.Error("Right, All and Codes of what was right")
	}
}

// What was asked of others plays no part, and asked again the same is told (R2).
func TestAskedAgain(t *testing.T) {
	l := many(api.MaxPromos)
	want := order(l, []string{"000000000000"})
	for range 3 {
		if promo.Right(api.Promo{}) || promo.All(plain()) || promo.Codes([]string{"b", "a"}) || len(promo.Order(full()[1:], nil)) != 0 {
			t.Error("what is not right, asked again")
		}
		if !promo.Right(l[5]) || !promo.All(l) || !promo.Codes([]string{"a", "b"}) {
			t.Error("what is right, asked again")
		}
		if got := promo.Order(l, []string{"000000000000"}); !slices.Equal(got, want) {
			t.Errorf("Order, asked again: %v, want %v", got, want)
		}
	}
}
