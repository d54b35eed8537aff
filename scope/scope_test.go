package scope_test

import (
	"bytes"
	"math/rand"
	"reflect"
	"regexp"
	"slices"
	"strconv"
	"strings"
	"testing"

	"haberdash/api"
	"haberdash/scope"
)

// The chapter's words once more.

var nameForm = regexp.MustCompile(`\A[-0-9a-z]{1,12}\z`)

// below is the document's word (R6): byte by byte, a beginning is below what goes on.
func below(s, t string) bool { return bytes.Compare([]byte(s), []byte(t)) < 0 }

// listRight asks each two texts of l whether they rise.
func listRight(l []string) bool {
	if len(l) > 20 {
		return false
	}
	for i, s := range l {
		if !nameForm.MatchString(s) {
			return false
		}
		for _, t := range l[i+1:] {
			if !below(s, t) {
				return false
			}
		}
	}
	return true
}

func right(s api.Scope) bool { return listRight(s.Skus) && listRight(s.Categories) }

// has goes over one list behind the other.
func has(s api.Scope, x api.Item) bool {
	for _, sku := range s.Skus {
		if sku == x.Sku {
			return true
		}
	}
	for _, category := range s.Categories {
		if category == x.Category {
			return true
		}
	}
	return len(s.Skus)+len(s.Categories) == 0
}

// index goes over all scopes for each item.
func index(items []api.Item, scopes []api.Scope) [][]int {
	l := make([][]int, 0)
	for _, x := range items {
		places := make([]int, 0)
		for k, s := range scopes {
			if has(s, x) {
				places = append(places, k)
			}
		}
		l = append(l, places)
	}
	return l
}

// What the tests are made of.

func skus(l ...string) api.Scope { return api.Scope{Skus: l} }

func categories(l ...string) api.Scope { return api.Scope{Categories: l} }

func both(skus, categories []string) api.Scope { return api.Scope{Skus: skus, Categories: categories} }

func item(sku, category string) api.Item { return api.Item{Sku: sku, Category: category} }

// rising is n names that rise, with room for others between each two.
func rising(n int) []string {
	l := make([]string, 0, n)
	for i := range n {
		digits := strconv.Itoa(2*i + 1)
		l = append(l, "n-"+strings.Repeat("0", 9-len(digits))+digits)
	}
	return l
}

// lists calls f with each list of up to n of those texts, a new one each time.
func lists(n int, texts []string, f func([]string)) {
	var longer func(l []string)
	longer = func(l []string) {
		f(slices.Clone(l))
		if len(l) == n {
			return
		}
		for _, s := range texts {
			longer(append(l, s))
		}
	}
	longer(make([]string, 0, n))
}

// all is each list of up to n of those texts.
func all(n int, texts []string) [][]string {
	var out [][]string
	lists(n, texts, func(l []string) { out = append(out, l) })
	return out
}

// copied is s in memory of its own.
func copied(s api.Scope) api.Scope {
	return api.Scope{Skus: slices.Clone(s.Skus), Categories: slices.Clone(s.Categories)}
}

func allCopied(l []api.Scope) []api.Scope {
	out := make([]api.Scope, 0, len(l))
	for _, s := range l {
		out = append(out, copied(s))
	}
	return out
}

// same is the document's word (R9): nil and an empty list are the same.
func same(s, t api.Scope) bool {
	return slices.Equal(s.Skus, t.Skus) && slices.Equal(s.Categories, t.Categories)
}

func sameIndex(a, b [][]int) bool {
	return slices.EqualFunc(a, b, func(x, y []int) bool { return slices.Equal(x, y) })
}

// told is a scope as one line.
func told(s api.Scope) string {
	parts := make([]string, 0, 2)
	for _, l := range [][]string{s.Skus, s.Categories} {
		if len(l) > 12 {
			parts = append(parts, strconv.Itoa(len(l))+" names")
			continue
		}
		quoted := make([]string, 0, len(l))
		for _, name := range l {
			quoted = append(quoted, strconv.Quote(name))
		}
		parts = append(parts, "["+strings.Join(quoted, " ")+"]")
	}
	return "{" + strings.Join(parts, ", ") + "}"
}

// holdsRight holds Right against its words, and s against what it was.
func holdsRight(t *testing.T, s api.Scope) {
	t.Helper()
	was := copied(s)
	if got, want := scope.Right(s), right(was); got != want {
		t.Fatalf("Right(%s): %v, want %v", told(was), got, want)
	}
	if !same(s, was) {
		t.Fatalf("Right(%s) made %s of it", told(was), told(s))
	}
}

// holdsHas holds Has against its words, and s against what it was.
func holdsHas(t *testing.T, s api.Scope, x api.Item) {
	t.Helper()
	was := copied(s)
	if got, want := scope.Has(s, x), has(was, x); got != want {
		t.Fatalf("Has(%s, %+v): %v, want %v", told(was), x, got, want)
	}
	if !same(s, was) {
		t.Fatalf("Has(%s, %+v) made %s of it", told(was), x, told(s))
	}
}

// holdsIndex holds Index against its words and against Has, and what is handed in against what it was.
func holdsIndex(t *testing.T, items []api.Item, scopes []api.Scope) {
	t.Helper()
	itemsWere, scopesWere := slices.Clone(items), allCopied(scopes)
	got, want := scope.Index(items, scopes), index(itemsWere, scopesWere)
	if !sameIndex(got, want) {
		t.Fatalf("Index(%+v, %+v): %v, want %v", itemsWere, scopesWere, got, want)
	}
	for i, x := range items {
		saysHas(t, got[i], x, scopes)
	}
	if !slices.Equal(items, itemsWere) || !slices.EqualFunc(scopes, scopesWere, same) {
		t.Fatalf("Index(%+v, %+v) made %+v and %+v of them", itemsWere, scopesWere, items, scopes)
	}
}

// saysHas tells whether places rise, and are those of scopes that have x by Has.
func saysHas(t *testing.T, places []int, x api.Item, scopes []api.Scope) {
	t.Helper()
	for i, place := range places {
		if place < 0 || place >= len(scopes) || i > 0 && place <= places[i-1] {
			t.Fatalf("Index of %d scopes tells of %+v: %v", len(scopes), x, places)
		}
	}
	for k, s := range scopes {
		if got, want := slices.Contains(places, k), scope.Has(s, x); got != want {
			t.Fatalf("Index tells of %+v: %v; Has(%s) is %v", x, places, told(s), want)
		}
	}
}

// P11.1: Right

func TestRight(t *testing.T) {
	most, more := rising(api.MaxScope), rising(api.MaxScope+1)
	for name, x := range map[string]struct {
		s    api.Scope
		want bool
	}{
		"nothing":                         {api.Scope{}, true},
		"empty lists":                     {both([]string{}, []string{}), true},
		"a Sku alone":                     {skus("a"), true},
		"Skus alone":                      {skus("a", "b", "c"), true},
		"a Category alone":                {categories("x"), true},
		"Categories alone":                {categories("x", "y", "z"), true},
		"both":                            {both([]string{"a", "b"}, []string{"x", "y"}), true},
		"both of the same names":          {both([]string{"a", "b"}, []string{"a", "b"}), true},
		"Categories below the Skus":       {both([]string{"x", "y"}, []string{"a", "b"}), true},
		"MaxScope Skus":                   {skus(most...), true},
		"one Sku more":                    {skus(more...), false},
		"MaxScope Categories":             {categories(most...), true},
		"one Category more":               {categories(more...), false},
		"MaxScope of each":                {both(most, most), true},
		"MaxScope, and one Sku more":      {both(more, most), false},
		"MaxScope, and one Category more": {both(most, more), false},
		"one more of each":                {both(more, more), false},
		"Skus that are equal":             {skus("a", "a"), false},
		"Categories that are equal":       {categories("x", "x"), false},
		"Skus that fall":                  {skus("b", "a"), false},
		"Categories that fall":            {categories("y", "x"), false},
		"the first two equal":             {skus("a", "a", "b"), false},
		"the last two equal":              {skus("a", "b", "b"), false},
		"the first two fall":              {categories("b", "a", "c"), false},
		"the last two fall":               {categories("a", "c", "b"), false},
		"the first again as the last":     {skus("a", "b", "c", "a"), false},
		"Skus wrong, Categories right":    {both([]string{"b", "a"}, []string{"a", "b"}), false},
		"Skus right, Categories wrong":    {both([]string{"a", "b"}, []string{"b", "a"}), false},
		"a beginning of the next":         {skus("a", "a-", "a-0", "aa"), true},
		"what goes on ahead of it":        {skus("a-", "a"), false},
		"a beginning, of Categories":      {categories("x", "x0"), true},
		"hyphens, digits, letters":        {skus("-", "0", "9", "a", "z"), true},
		"digits ahead of hyphens":         {skus("0", "-"), false},
		"letters ahead of digits":         {categories("a", "0"), false},
		"a longer one that is below":      {skus("10", "9"), true},
		"as numbers they would rise":      {skus("9", "10"), false},
		"a Sku of no byte":                {skus(""), false},
		"a Category of no byte":           {categories(""), false},
		"no byte ahead of a name":         {skus("", "a"), false},
		"names of MaxName":                {both([]string{"abcdefghijkl"}, []string{"abcdefghijkl"}), true},
		"a Sku of one byte more":          {skus("abcdefghijklm"), false},
		"a Category of one byte more":     {categories("abcdefghijklm"), false},
		"a great letter":                  {skus("A", "a"), false},
		"a great letter as a Category":    {categories("X"), false},
		"a blank":                         {skus("a", "a b"), false},
		"behind the letters":              {categories("a", "{"), false},
		"a letter of two bytes":           {skus("a", "é"), false},
		"a byte that is no letter":        {categories("a", "\xff"), false},
		"a nought behind a name":          {skus("a", "a\x00"), false},
	} {
		if got := scope.Right(x.s); got != x.want {
			t.Errorf("%s: Right(%s): %v, want %v", name, told(x.s), got, x.want)
		}
		holdsRight(t, x.s)
	}
}

// Of each two lengths, beside and far above the limit.
func TestRightOfEachNumberOfNames(t *testing.T) {
	l := rising(3 * api.MaxScope)
	for n := range len(l) + 1 {
		for m := range len(l) + 1 {
			if got, want := scope.Right(both(l[:n], l[:m])), n <= api.MaxScope && m <= api.MaxScope; got != want {
				t.Fatalf("Right of %d Skus and %d Categories: %v, want %v", n, m, got, want)
			}
		}
	}
}

// One text that is no name, or that does not rise, at each place of lists of each length, as Skus and as Categories.
func TestRightOfOneWrongName(t *testing.T) {
	spoils := map[string]func(l []string, place int){
		"no byte":        func(l []string, place int) { l[place] = "" },
		"too many bytes": func(l []string, place int) { l[place] += "00" },
		"a great letter": func(l []string, place int) { l[place] = "N" + l[place][1:] },
		"a last byte":    func(l []string, place int) { l[place] = l[place][:len(l[place])-1] + "_" },
		"a nought":       func(l []string, place int) { l[place] = l[place][:len(l[place])-1] + "\x00" },
		"the one ahead":  func(l []string, place int) { l[place] = l[max(place-1, 0)] },
		"the first":      func(l []string, place int) { l[place] = l[0] },
		"what was ahead": func(l []string, place int) { l[place], l[max(place-1, 0)] = l[max(place-1, 0)], l[place] },
	}
	clean := rising(4)
	for n := 1; n <= api.MaxScope; n++ {
		for place := range n {
			for name, spoil := range spoils {
				l := rising(n)
				spoil(l, place)
				want := listRight(l)
				for _, s := range []api.Scope{skus(l...), categories(l...), both(l, clean), both(clean, l)} {
					if got := scope.Right(s); got != want {
						t.Fatalf("Right(%s) of %d names, at %d with %s: %v, want %v", told(s), n, place, name, got, want)
					}
				}
			}
		}
	}
}

func TestRightOfAllLittleScopes(t *testing.T) {
	texts := []string{"", "-", "0", "a", "a-", "aa", "ab", "A", "é"}
	lists(4, texts, func(l []string) {
		holdsRight(t, skus(l...))
		holdsRight(t, categories(l...))
	})
	little := all(2, texts)
	for _, l := range little {
		for _, m := range little {
			holdsRight(t, both(l, m))
		}
	}
}

// P11.1: Has

func TestHas(t *testing.T) {
	a := both([]string{"a"}, []string{"x"})
	falling := both([]string{"c", "a", "b"}, []string{"z", "x", "y"})
	twice := both([]string{"a", "b", "a", "b"}, []string{"x", "x", "y"})
	noNames := both([]string{"A", "", "a b", "é"}, []string{"X", "abcdefghijklmno", "\xff"})
	for name, x := range map[string]struct {
		s    api.Scope
		x    api.Item
		want bool
	}{
		"the example":                           {a, item("b", "x"), true},
		"the example, another":                  {a, item("b", "y"), false},
		"by its Sku":                            {a, item("a", "y"), true},
		"by both":                               {a, item("a", "x"), true},
		"nothing named":                         {api.Scope{}, item("a", "x"), true},
		"nothing named, empty lists":            {both([]string{}, []string{}), item("a", "x"), true},
		"nothing named, nothing of an item":     {api.Scope{}, api.Item{}, true},
		"nothing named, an item that is wrong":  {api.Scope{}, api.Item{Sku: "A", Category: "é", Price: -1}, true},
		"a Sku among Categories alone":          {both([]string{"a"}, []string{"b"}), item("b", "y"), false},
		"a Category among Skus alone":           {both([]string{"y"}, []string{"x"}), item("b", "y"), false},
		"each among the other":                  {a, item("x", "a"), false},
		"a Sku among Categories, no Skus":       {categories("a"), item("a", "y"), false},
		"a Category among Skus, no Categories":  {skus("x"), item("a", "x"), false},
		"Skus alone, one of them":               {skus("a", "b"), item("b", "x"), true},
		"Skus alone, none of them":              {skus("a", "b"), item("c", "x"), false},
		"Categories alone, one of them":         {categories("x", "y"), item("c", "y"), true},
		"Categories alone, none of them":        {categories("x", "y"), item("c", "z"), false},
		"the first of many Skus":                {skus(rising(20)...), item(rising(20)[0], "x"), true},
		"the last of many Skus":                 {skus(rising(20)...), item(rising(20)[19], "x"), true},
		"behind many Skus":                      {skus(rising(20)...), item(rising(21)[20], "x"), false},
		"the last of many Categories":           {categories(rising(20)...), item("a", rising(20)[19]), true},
		"more than MaxScope, the last":          {skus(rising(90)...), item(rising(90)[89], "x"), true},
		"more than MaxScope, none of them":      {skus(rising(90)...), item(rising(91)[90], "x"), false},
		"falling, the first":                    {falling, item("c", "q"), true},
		"falling, the last":                     {falling, item("b", "q"), true},
		"falling, between":                      {falling, item("a", "q"), true},
		"falling, the first Category":           {falling, item("q", "z"), true},
		"falling, the last Category":            {falling, item("q", "y"), true},
		"falling, none of them":                 {falling, item("d", "w"), false},
		"named twice":                           {twice, item("a", "q"), true},
		"named twice, the other":                {twice, item("b", "q"), true},
		"a Category named twice":                {twice, item("q", "x"), true},
		"named twice, none of them":             {twice, item("c", "z"), false},
		"a text that is no name":                {noNames, item("a b", "q"), true},
		"no byte":                               {noNames, item("", "q"), true},
		"a Category that is no name":            {noNames, item("q", "\xff"), true},
		"a Category that is too long":           {noNames, item("q", "abcdefghijklmno"), true},
		"no names, none of them":                {noNames, item("a", "x"), false},
		"no byte, as a Category, among Skus":    {noNames, item("q", ""), false},
		"a Sku of no byte, named":               {skus(""), item("", "q"), true},
		"a Sku of no byte, not named":           {skus("a"), item("", "q"), false},
		"a Category of no byte, named":          {categories(""), item("q", ""), true},
		"a Category of no byte, not named":      {categories("x"), item("q", ""), false},
		"an item of nothing, a scope of Skus":   {skus("a"), api.Item{}, false},
		"an item of nothing, names of no byte":  {both([]string{""}, []string{""}), api.Item{}, true},
		"a beginning of one that is named":      {skus("aa"), item("a", "q"), false},
		"what goes on behind one that is named": {skus("a"), item("aa", "q"), false},
		"a great letter":                        {skus("a"), item("A", "q"), false},
		"a great letter, named":                 {categories("X"), item("q", "x"), false},
		"a nought more":                         {skus("a"), item("a\x00", "q"), false},
	} {
		if got := scope.Has(x.s, x.x); got != x.want {
			t.Errorf("%s: Has(%s, %+v): %v, want %v", name, told(x.s), x.x, got, x.want)
		}
		holdsHas(t, x.s, x.x)
	}
}

// What an item costs, and whether it is taken back, plays no part.
func TestHasAsksForNamesAlone(t *testing.T) {
	for _, s := range []api.Scope{{}, skus("a"), categories("x"), skus("b"), categories("y")} {
		want := scope.Has(s, item("a", "x"))
		for _, price := range []int64{-1 << 63, -1, 0, 1, api.MaxPrice, api.MaxPrice + 1, 1<<63 - 1} {
			for _, final := range []bool{false, true} {
				if got := scope.Has(s, api.Item{Sku: "a", Category: "x", Price: price, Final: final}); got != want {
					t.Errorf("Has(%s) of an item for %d, final %v: %v, want %v", told(s), price, final, got, want)
				}
			}
		}
	}
}

func TestHasOfAllLittleScopes(t *testing.T) {
	texts := []string{"", "a", "aa", "b", "é"}
	little := all(3, texts)
	asked := slices.Concat(texts, []string{"A", "\x00"})
	for _, l := range little {
		for _, m := range little {
			for _, sku := range asked {
				for _, category := range asked {
					holdsHas(t, both(l, m), item(sku, category))
				}
			}
		}
	}
}

// What follows

// A scope that names more has more: of those that name something, since who names nothing has all.
func TestAScopeThatNamesMoreHasMore(t *testing.T) {
	texts := []string{"", "a", "b", "x"}
	little := all(2, texts)
	for _, l := range little {
		for _, m := range little {
			if len(l)+len(m) == 0 {
				continue
			}
			for _, more := range texts {
				keepsAll(t, both(l, m), both(append(slices.Clone(l), more), m), texts)
				keepsAll(t, both(l, m), both(append([]string{more}, l...), m), texts)
				keepsAll(t, both(l, m), both(l, append(slices.Clone(m), more)), texts)
			}
		}
	}
}

func keepsAll(t *testing.T, less, more api.Scope, texts []string) {
	t.Helper()
	for _, sku := range texts {
		for _, category := range texts {
			if x := item(sku, category); scope.Has(less, x) && !scope.Has(more, x) {
				t.Fatalf("%+v: %s has it, %s has not", x, told(less), told(more))
			}
		}
	}
}

// P11.1: Index

func TestIndex(t *testing.T) {
	a, b, c := item("a", "x"), item("b", "y"), item("c", "x")
	none, every := skus("q"), api.Scope{}
	for name, x := range map[string]struct {
		items  []api.Item
		scopes []api.Scope
		want   [][]int
	}{
		"nothing":                       {nil, nil, nil},
		"empty lists":                   {[]api.Item{}, []api.Scope{}, nil},
		"no items":                      {nil, []api.Scope{every, skus("a")}, nil},
		"no scopes":                     {[]api.Item{a, b}, nil, [][]int{{}, {}}},
		"one item, one scope":           {[]api.Item{a}, []api.Scope{skus("a")}, [][]int{{0}}},
		"one item, another scope":       {[]api.Item{a}, []api.Scope{none}, [][]int{{}}},
		"an item that no scope has":     {[]api.Item{a, b, c}, []api.Scope{skus("a"), categories("x"), none}, [][]int{{0, 1}, {}, {1}}},
		"an item that all have":         {[]api.Item{b, a}, []api.Scope{every, categories("x"), skus("a"), both([]string{"a"}, []string{"x"})}, [][]int{{0}, {0, 1, 2, 3}}},
		"all have all":                  {[]api.Item{a, b, c}, []api.Scope{every, every}, [][]int{{0, 1}, {0, 1}, {0, 1}}},
		"none has any":                  {[]api.Item{a, b, c}, []api.Scope{none, none}, [][]int{{}, {}, {}}},
		"of the last scope alone":       {[]api.Item{a}, []api.Scope{none, none, none, skus("a")}, [][]int{{3}}},
		"of the first and the last":     {[]api.Item{a}, []api.Scope{skus("a"), none, none, categories("x")}, [][]int{{0, 3}}},
		"by Sku and by Category, once":  {[]api.Item{a}, []api.Scope{both([]string{"a", "b"}, []string{"x", "y"})}, [][]int{{0}}},
		"names that stand there twice":  {[]api.Item{a, b}, []api.Scope{skus("a", "a", "a"), categories("y", "y")}, [][]int{{0}, {1}}},
		"names that fall":               {[]api.Item{a, b, c}, []api.Scope{skus("c", "b", "a"), categories("z", "x", "a")}, [][]int{{0, 1}, {0}, {0, 1}}},
		"the same item twice":           {[]api.Item{a, b, a}, []api.Scope{skus("a"), categories("y"), every}, [][]int{{0, 2}, {1, 2}, {0, 2}}},
		"the same scope twice":          {[]api.Item{a, b}, []api.Scope{skus("a"), categories("y"), skus("a"), categories("y")}, [][]int{{0, 2}, {1, 3}}},
		"both twice":                    {[]api.Item{a, a}, []api.Scope{skus("a"), skus("a")}, [][]int{{0, 1}, {0, 1}}},
		"items that fall":               {[]api.Item{c, b, a}, []api.Scope{skus("a"), skus("b"), skus("c")}, [][]int{{2}, {1}, {0}}},
		"a Sku among Categories":        {[]api.Item{item("a", "x"), item("x", "a")}, []api.Scope{categories("a"), skus("x")}, [][]int{{}, {0, 1}}},
		"items that may not be":         {[]api.Item{{}, {Sku: "A", Category: "é", Price: -1}, {Sku: "a", Price: -7}}, []api.Scope{every, skus("A", ""), categories("é"), skus("a")}, [][]int{{0, 1}, {0, 1, 2}, {0, 3}}},
		"scopes that may not be":        {[]api.Item{a, item("", "x"), item("A", "")}, []api.Scope{skus("", "A"), both([]string{"z", "a"}, []string{""}), skus("a b")}, [][]int{{1}, {0}, {0, 1}}},
		"a scope of more than MaxScope": {[]api.Item{item(rising(50)[49], "x"), a}, []api.Scope{skus(rising(50)...), categories(rising(50)...)}, [][]int{{0}, {}}},
	} {
		if got := scope.Index(x.items, x.scopes); !sameIndex(got, x.want) {
			t.Errorf("%s: Index(%+v, %+v): %v, want %v", name, x.items, x.scopes, got, x.want)
		}
		holdsIndex(t, x.items, x.scopes)
	}
}

// Each one item with each two scopes, each two items with each one scope.
func TestIndexOfAllLittleOnes(t *testing.T) {
	texts := []string{"", "a", "b"}
	var items []api.Item
	for _, sku := range texts {
		for _, category := range texts {
			items = append(items, item(sku, category))
		}
	}
	var scopes []api.Scope
	for _, l := range all(2, texts) {
		for _, m := range all(2, texts) {
			scopes = append(scopes, both(l, m))
		}
	}
	for _, s := range scopes {
		holdsIndex(t, items, []api.Scope{s})
		for _, x := range items {
			for _, y := range items {
				holdsIndex(t, []api.Item{x, y}, []api.Scope{s})
			}
		}
		for _, other := range scopes {
			holdsIndex(t, items, []api.Scope{s, other})
		}
	}
}

func TestIndexOfAnyOnes(t *testing.T) {
	r := rand.New(rand.NewSource(111))
	texts := []string{"", "a", "a-", "b", "c", "x", "y", "A", "é", "abcdefghijkl", "abcdefghijklm"}
	some := func(most int) []string {
		l := make([]string, r.Intn(most+1))
		for i := range l {
			l[i] = texts[r.Intn(len(texts))]
		}
		return l
	}
	for range 3_000 {
		items := make([]api.Item, r.Intn(12))
		for i := range items {
			items[i] = api.Item{Sku: texts[r.Intn(len(texts))], Category: texts[r.Intn(len(texts))], Price: r.Int63() - r.Int63(), Final: r.Intn(2) == 0}
		}
		scopes := make([]api.Scope, r.Intn(12))
		for k := range scopes {
			scopes[k] = both(some(3), some(3))
		}
		holdsIndex(t, items, scopes)
	}
}

// As many as may be sold, with as many scopes as promos may have.
func TestIndexOfTheMostThatMayBe(t *testing.T) {
	names := rising(api.MaxItems)
	items := make([]api.Item, 0, api.MaxItems)
	for i, name := range names {
		items = append(items, item(name, names[i%7]))
	}
	scopes := make([]api.Scope, 0, api.MaxPromos)
	for k := range api.MaxPromos {
		scopes = append(scopes, both(names[8*k:8*k+api.MaxScope], names[k:k+api.MaxScope]))
	}
	for _, s := range scopes {
		holdsRight(t, s)
	}
	holdsIndex(t, items, scopes)
}

// What holds everywhere

// What is handed in stays, with the room behind its end (R3); and what stands in that room plays no part.
func TestTheRoomBehindLists(t *testing.T) {
	skuRoom, categoryRoom := []string{"a", "b", "a", "", "c"}, []string{"x", "z", "y", "A"}
	itemRoom := []api.Item{item("a", "q"), item("c", "y"), item("b", "x"), item("c", "A")}
	s := both(skuRoom[:2], categoryRoom[:1])
	scopeRoom := []api.Scope{s, both(skuRoom[:0], categoryRoom[:0]), skus("c"), {}}
	skusWere, categoriesWere := slices.Clone(skuRoom), slices.Clone(categoryRoom)
	itemsWere, scopesWere := slices.Clone(itemRoom), allCopied(scopeRoom)

	if !scope.Right(s) || !scope.Right(both(skuRoom[:2], categoryRoom[:2])) || scope.Right(both(skuRoom[:3], nil)) || !scope.Right(scopeRoom[1]) {
		t.Error("Right asks what stands behind an end, or not what stands ahead of it")
	}
	if !scope.Has(s, item("b", "q")) || scope.Has(s, item("c", "y")) || scope.Has(s, item("", "A")) || !scope.Has(scopeRoom[1], item("q", "q")) {
		t.Error("Has asks what stands behind an end, or not what stands ahead of it")
	}
	if got, want := scope.Index(itemRoom[:3], scopeRoom[:2]), [][]int{{0, 1}, {1}, {0, 1}}; !sameIndex(got, want) {
		t.Errorf("Index with room behind: %v, want %v", got, want)
	}
	if got := scope.Index(itemRoom[:0], scopeRoom[:0]); len(got) != 0 {
		t.Errorf("Index of nothing with room behind: %v", got)
	}

	if !slices.Equal(skuRoom, skusWere) || !slices.Equal(categoryRoom, categoriesWere) {
		t.Errorf("names with the room behind: %q, %q, want %q, %q", skuRoom, categoryRoom, skusWere, categoriesWere)
	}
	if !slices.Equal(itemRoom, itemsWere) || !reflect.DeepEqual(scopeRoom, scopesWere) {
		t.Errorf("items and scopes with the room behind: %+v, %+v, want %+v, %+v", itemRoom, scopeRoom, itemsWere, scopesWere)
	}
}

// many is items and scopes of which each item is had by another number of scopes.
func many() ([]api.Item, []api.Scope) {
	var items []api.Item
	var scopes []api.Scope
	for n := range 20 {
		items = append(items, item(rising(20)[n], "x"))
		scopes = append(scopes, skus(rising(20)[n:]...))
	}
	return items, scopes
}

// What is handed out is new memory: who writes into one of its lists, or into the room behind one, changes no other list, nothing that was handed in, and nothing that is told later (R3).
func TestAnIndexIsNewMemory(t *testing.T) {
	items, scopes := many()
	want := index(items, scopes)
	itemsWere, scopesWere := slices.Clone(items), allCopied(scopes)
	for written := range items {
		got := scope.Index(items, scopes)
		room := got[written][:cap(got[written])]
		for i := range room {
			room[i] = -1
		}
		_ = append(got[written], -2, -2, -2)
		for i, places := range got {
			if i != written && !slices.Equal(places, want[i]) {
				t.Fatalf("written into the list %d, the list %d is %v, want %v", written, i, places, want[i])
			}
		}
	}
	got := scope.Index(items, scopes)
	rows := got[:cap(got)]
	for i := range rows {
		rows[i] = nil
	}
	if !slices.Equal(items, itemsWere) || !slices.EqualFunc(scopes, scopesWere, same) {
		t.Error("who writes into an index changes what was handed in")
	}
	if again := scope.Index(items, scopes); !sameIndex(again, want) {
		t.Errorf("an index that is told behind one that was written to: %v, want %v", again, want)
	}
}

// What is handed in is not kept: who writes into it later changes no index (R3).
func TestWhatIsHandedInIsNotKept(t *testing.T) {
	items, scopes := many()
	want := index(items, scopes)
	got := scope.Index(items, scopes)
	for i := range items {
		items[i] = api.Item{}
	}
	for k := range scopes {
		for i := range scopes[k].Skus {
			scopes[k].Skus[i] = "q"
		}
		scopes[k] = categories("q")
	}
	if !sameIndex(got, want) {
		t.Errorf("an index, once what was handed in was written to: %v, want %v", got, want)
	}
	s := skus("a", "b")
	if !scope.Right(s) || !scope.Has(s, item("b", "x")) {
		t.Errorf("Right and Has of %s", told(s))
	}
	s.Skus[1] = "a"
	if scope.Right(s) || scope.Has(s, item("b", "x")) || !scope.Has(s, item("a", "x")) {
		t.Errorf("Right and Has of %s, which was another one", told(s))
	}
}

// What was asked of others plays no part, and asked again the same is told (R2).
func TestAskedAgain(t *testing.T) {
	items, scopes := many()
	want := scope.Index(items, scopes)
	for range 3 {
		if !scope.Right(skus("a")) || scope.Right(skus("A")) || !scope.Has(skus("a"), item("a", "x")) || scope.Has(skus("b"), item("a", "x")) {
			t.Error("Right and Has, asked again")
		}
		if got := scope.Index(items[:3], scopes[:2]); !sameIndex(got, index(items[:3], scopes[:2])) {
			t.Errorf("Index of some: %v", got)
		}
		if got := scope.Index(items, scopes); !sameIndex(got, want) {
			t.Errorf("Index, asked again: %v, want %v", got, want)
		}
	}
}
