package goods_test

import (
	"bytes"
	"math"
	"math/rand"
	"regexp"
	"slices"
	"strconv"
	"strings"
	"testing"

	"haberdash/api"
	"haberdash/goods"
)

// The chapter's words once more.

var nameForm = regexp.MustCompile(`\A[-0-9a-z]{1,12}\z`)

// below is the document's word (R6): byte by byte, a beginning is below what goes on.
func below(s, t string) bool { return bytes.Compare([]byte(s), []byte(t)) < 0 }

// right asks each two items of l whether they rise.
func right(l []api.Item) bool {
	if len(l) > 500 {
		return false
	}
	for i, x := range l {
		if !nameForm.MatchString(x.Sku) || !nameForm.MatchString(x.Category) || x.Price < 0 || 1_000_000_000 < x.Price {
			return false
		}
		for _, y := range l[i+1:] {
			if !below(x.Sku, y.Sku) {
				return false
			}
		}
	}
	return true
}

// find asks one item behind the other.
func find(l []api.Item, sku string) int {
	for i, x := range l {
		if x.Sku == sku {
			return i
		}
	}
	return -1
}

// told is a list as one line. A long one is told by its length alone.
func told(l []api.Item) string {
	if len(l) > 12 {
		return strconv.Itoa(len(l)) + " items"
	}
	var parts []string
	for _, x := range l {
		parts = append(parts, strconv.Quote(x.Sku)+"/"+strconv.Quote(x.Category)+"/"+strconv.FormatInt(x.Price, 10))
	}
	return "[" + strings.Join(parts, " ") + "]"
}

// namesRight holds Name against its words.
func namesRight(t *testing.T, s string) {
	t.Helper()
	if got, want := goods.Name(s), nameForm.MatchString(s); got != want {
		t.Fatalf("Name(%q): %v, want %v", s, got, want)
	}
}

// holdsRight holds Right against its words, and l against what it was.
func holdsRight(t *testing.T, l []api.Item) {
	t.Helper()
	was := slices.Clone(l)
	if got, want := goods.Right(l), right(was); got != want {
		t.Fatalf("Right(%s): %v, want %v", told(was), got, want)
	}
	if !slices.Equal(l, was) {
		t.Fatalf("Right(%s) made %s of it", told(was), told(l))
	}
}

// holdsFind holds Find against its words, and l against what it was.
func holdsFind(t *testing.T, l []api.Item, sku string) {
	t.Helper()
	was := slices.Clone(l)
	if got, want := goods.Find(l, sku), find(was, sku); got != want {
		t.Fatalf("Find(%s, %q): %d, want %d", told(was), sku, got, want)
	}
	if !slices.Equal(l, was) {
		t.Fatalf("Find(%s, %q) made %s of it", told(was), sku, told(l))
	}
}

func item(sku, category string, price int64, final bool) api.Item {
	return api.Item{Sku: sku, Category: category, Price: price, Final: final}
}

// of is items of those Skus, right in all else.
func of(skus ...string) []api.Item {
	l := make([]api.Item, 0, len(skus))
	for i, sku := range skus {
		l = append(l, api.Item{Sku: sku, Category: "c", Price: int64(i), Final: i%2 == 1})
	}
	return l
}

// skus is n names that rise, with room for others between each two.
func skus(n int) []string {
	l := make([]string, 0, n)
	for i := range n {
		digits := strconv.Itoa(2*i + 1)
		l = append(l, "n-"+strings.Repeat("0", 9-len(digits))+digits)
	}
	return l
}

// lists calls f with each list of up to n of those texts.
func lists(n int, texts []string, f func([]string)) {
	l := make([]string, 0, n)
	var longer func()
	longer = func() {
		f(l)
		if len(l) == n {
			return
		}
		for _, s := range texts {
			l = append(l, s)
			longer()
			l = l[:len(l)-1]
		}
	}
	longer()
}

// P10.1: Name

func TestName(t *testing.T) {
	for s, want := range map[string]bool{
		"a-1": true, "": false, "A": false, // the example
		"a": true, "z": true, "0": true, "9": true, "-": true, "--": true, "-a": true, "a-": true, "00": true, "tea": true, "tea-2": true,
		"B": false, "Tea": false, "teA": false, "t a": false, " tea": false, "tea ": false, "tea\n": false, "\ntea": false, "tea\x00": false,
		"te_a": false, "te.a": false, "te+a": false, "te/a": false, "te,a": false, "\x00": false, "\x7f": false, "\x80": false, "\xff": false,
		"abcdefghijkl": true, "abcdefghijklm": false, "------------": true, "-------------": false, "123456789012": true, "1234567890123": false,
	} {
		if goods.Name(s) != want {
			t.Errorf("Name(%q): want %v", s, want)
		}
	}
}

func TestNameOfEachLength(t *testing.T) {
	for n := range 1_000 {
		for _, one := range []string{"a", "m", "z", "0", "9", "-"} {
			s := strings.Repeat(one, n)
			if got, want := goods.Name(s), 1 <= n && n <= api.MaxName; got != want {
				t.Fatalf("Name of %d bytes %q: %v, want %v", n, one, got, want)
			}
		}
	}
	if goods.Name(strings.Repeat("a", 1<<20)) {
		t.Error("Name of a long text: true")
	}
}

func TestNameOfEachByteAtEachPlace(t *testing.T) {
	for _, filled := range []string{"abcdefghijklmno", "0z9a-0z9a-0z9a-", "---------------"} {
		for n := 1; n <= api.MaxName+2; n++ {
			for place := range n {
				for c := range 256 {
					b := []byte(filled[:n])
					b[place] = byte(c)
					namesRight(t, string(b))
				}
			}
		}
	}
}

func TestNameOfEachTwoBytes(t *testing.T) {
	for a := range 256 {
		for b := range 256 {
			namesRight(t, string([]byte{byte(a), byte(b)}))
		}
	}
}

func TestNameOfBytesBesideThoseThatMayBe(t *testing.T) {
	for _, c := range []byte{'a' - 1, 'z' + 1, '0' - 1, '9' + 1, '-' - 1, '-' + 1, 'A', 'Z', 'A' - 1, 'Z' + 1} {
		for _, s := range []string{string(rune(c)), string(rune(c)) + "a", "a" + string(rune(c)), "a" + string(rune(c)) + "0"} {
			if goods.Name(s) {
				t.Errorf("Name(%q): true", s)
			}
		}
	}
}

// Also those of which the low byte, or the digit or the little letter that they stand for, would be right.
func TestNameOfLettersOfMoreThanOneByte(t *testing.T) {
	for _, s := range []string{
		"é", "ß", "а", "ａ", "０", "٣", "‐", "－", "–", "ı", "ⓐ", "日", "\u00ad", "\u212a", "\u017f", "a\u0301", "\u0161\u0162\u0130", "\U0001d41a",
		"aé", "éa", "aéa", "abcdefghijé", "abcdefghijké", "éééééé", "éééééééééééé", "日日日日", "日日日日日日日日日日日日",
		"\xc3", "a\xc3", "\xa9", "\xe1a", "\xed\xa0\x80", "\xc1\xa1", // no letters, or more bytes than a letter has
	} {
		if goods.Name(s) {
			t.Errorf("Name(%q): true", s)
		}
	}
	for r := rune(128); r <= 0x10ffff; r++ {
		if goods.Name(string(r)) {
			t.Fatalf("Name(%q): true", string(r))
		}
	}
}

// P10.1: Right

func TestRight(t *testing.T) {
	const most = api.MaxPrice
	for name, x := range map[string]struct {
		l    []api.Item
		want bool
	}{
		"no list":                       {nil, true},
		"no item":                       {[]api.Item{}, true},
		"one":                           {[]api.Item{item("a", "x", 1, false)}, true},
		"one that is final":             {[]api.Item{item("a", "x", 1, true)}, true},
		"two that rise":                 {of("a", "b"), true},
		"two that are equal":            {of("a", "a"), false},
		"two that fall":                 {of("b", "a"), false},
		"two that differ in all else":   {[]api.Item{item("a", "x", 1, false), item("a", "y", 2, true)}, false},
		"a beginning of the next":       {of("a", "a-"), true},
		"what goes on ahead of it":      {of("a-", "a"), false},
		"a beginning, with a digit":     {of("a", "a0", "a00", "aa"), true},
		"hyphens, digits, letters":      {of("-", "0", "9", "a", "z"), true},
		"digits ahead of hyphens":       {of("0", "-"), false},
		"letters ahead of digits":       {of("a", "0"), false},
		"a longer one that is below":    {of("10", "9"), true},
		"as numbers they would rise":    {of("9", "10"), false},
		"the first two equal":           {of("a", "a", "b"), false},
		"the last two equal":            {of("a", "b", "b"), false},
		"the first two fall":            {of("b", "a", "c"), false},
		"the last two fall":             {of("a", "c", "b"), false},
		"the first again as the last":   {of("a", "b", "c", "a"), false},
		"names of MaxName":              {of("abcdefghijkl", "abcdefghijkm"), true},
		"a Sku of one more, first":      {of("abcdefghijklm", "b"), false},
		"a Sku of one more, last":       {of("a", "abcdefghijklm"), false},
		"a Sku of no byte":              {of("", "a"), false},
		"a Sku of no byte alone":        {of(""), false},
		"a great letter":                {of("A", "a"), false},
		"a blank":                       {of("a", "a b"), false},
		"behind the letters":            {of("a", "{"), false},
		"a letter of two bytes":         {of("a", "é"), false},
		"no Category":                   {[]api.Item{{Sku: "a", Price: 1}}, false},
		"a Category that is no name":    {[]api.Item{item("a", "X", 1, false)}, false},
		"a Category of MaxName":         {[]api.Item{item("a", "abcdefghijkl", 1, false)}, true},
		"a Category of one more":        {[]api.Item{item("a", "abcdefghijklm", 1, false)}, false},
		"a Category of two bytes":       {[]api.Item{item("a", "é", 1, false)}, false},
		"Categories that are equal":     {[]api.Item{item("a", "x", 1, false), item("b", "x", 1, false)}, true},
		"Categories that fall":          {[]api.Item{item("a", "y", 1, false), item("b", "x", 1, false)}, true},
		"a Category that is a Sku":      {[]api.Item{item("a", "b", 1, false), item("b", "a", 1, false)}, true},
		"a Price of 0":                  {[]api.Item{item("a", "x", 0, false)}, true},
		"a Price of -1":                 {[]api.Item{item("a", "x", -1, false)}, false},
		"the least Price of all":        {[]api.Item{item("a", "x", math.MinInt64, false)}, false},
		"a Price of MaxPrice less 1":    {[]api.Item{item("a", "x", most-1, false)}, true},
		"a Price of MaxPrice":           {[]api.Item{item("a", "x", most, false)}, true},
		"a Price of one more":           {[]api.Item{item("a", "x", most+1, false)}, false},
		"a Price that goes round to 32": {[]api.Item{item("a", "x", 1<<32+5, false)}, false},
		"the greatest Price of all":     {[]api.Item{item("a", "x", math.MaxInt64, false)}, false},
		"Prices that fall":              {[]api.Item{item("a", "x", 2, false), item("b", "x", 1, false)}, true},
		"Prices of MaxPrice":            {[]api.Item{item("a", "x", most, false), item("b", "x", most, false)}, true},
		"nothing but zeros":             {make([]api.Item, 1), false},
	} {
		if got := goods.Right(x.l); got != x.want {
			t.Errorf("%s: Right(%s): %v, want %v", name, told(x.l), got, x.want)
		}
		holdsRight(t, x.l)
	}
}

func TestRightOfEachNumberOfItems(t *testing.T) {
	all := of(skus(2*api.MaxItems + 1)...)
	for _, n := range []int{0, 1, 2, api.MaxItems - 1, api.MaxItems, api.MaxItems + 1, 2 * api.MaxItems, 2*api.MaxItems + 1} {
		if got, want := goods.Right(all[:n]), n <= api.MaxItems; got != want {
			t.Errorf("Right of %d right items: %v, want %v", n, got, want)
		}
	}
}

// One thing that is not right, at each place of lists of each length, and of the longest.
func TestRightOfOneWrongItem(t *testing.T) {
	spoils := map[string]func(*api.Item){
		"nothing":            func(*api.Item) {},
		"a Sku of no byte":   func(x *api.Item) { x.Sku = "" },
		"a Sku that is long": func(x *api.Item) { x.Sku += "00" },
		"a Sku's great N":    func(x *api.Item) { x.Sku = "N" + x.Sku[1:] },
		"a Sku's last byte":  func(x *api.Item) { x.Sku = x.Sku[:len(x.Sku)-1] + "_" },
		"no Category":        func(x *api.Item) { x.Category = "" },
		"a wrong Category":   func(x *api.Item) { x.Category = "c c" },
		"a long Category":    func(x *api.Item) { x.Category = "abcdefghijklm" },
		"a Price below":      func(x *api.Item) { x.Price = -1 },
		"a Price above":      func(x *api.Item) { x.Price = api.MaxPrice + 1 },
	}
	for _, n := range []int{1, 2, 3, 4, 7, api.MaxItems} {
		for place := range n {
			for name, spoil := range spoils {
				l := of(skus(n)...)
				spoil(&l[place])
				if got, want := goods.Right(l), name == "nothing"; got != want {
					t.Fatalf("Right of %d items, the item %d with %s: %v, want %v", n, place, name, got, want)
				}
			}
		}
	}
}

// A step that does not rise, at each place of the longest list.
func TestRightOfOneStepThatDoesNotRise(t *testing.T) {
	all := skus(api.MaxItems)
	for place := range api.MaxItems - 1 {
		equal, falling := slices.Clone(all), slices.Clone(all)
		equal[place+1] = equal[place]
		falling[place], falling[place+1] = falling[place+1], falling[place]
		for name, l := range map[string][]string{"equal": equal, "falling": falling} {
			if goods.Right(of(l...)) {
				t.Fatalf("Right of %d items, those at %d and behind %s: true", len(l), place, name)
			}
		}
	}
}

func TestRightOfAllLittleLists(t *testing.T) {
	lists(4, []string{"", "-", "0", "a", "a-", "aa", "ab", "A", "é"}, func(skus []string) { holdsRight(t, of(skus...)) })
}

func TestRightOfAllKindsOfItems(t *testing.T) {
	var kinds []api.Item
	for _, sku := range []string{"", "a", "b", "abcdefghijkl", "abcdefghijklm"} {
		for _, category := range []string{"", "a", "abcdefghijkl", "abcdefghijklm", "B"} {
			for _, price := range []int64{math.MinInt64, -1, 0, 1, api.MaxPrice, api.MaxPrice + 1, math.MaxInt64} {
				kinds = append(kinds, api.Item{Sku: sku, Category: category, Price: price}, api.Item{Sku: sku, Category: category, Price: price, Final: true})
			}
		}
	}
	for _, x := range kinds {
		holdsRight(t, []api.Item{x})
		for _, y := range kinds {
			holdsRight(t, []api.Item{x, y})
		}
	}
}

// P10.1: Find

func TestFind(t *testing.T) {
	for name, x := range map[string]struct {
		l    []api.Item
		sku  string
		want int
	}{
		"no list":                      {nil, "a", -1},
		"no list, no text":             {nil, "", -1},
		"an empty list":                {[]api.Item{}, "a", -1},
		"an empty list, no text":       {[]api.Item{}, "", -1},
		"one":                          {of("a"), "a", 0},
		"ahead of one":                 {of("b"), "a", -1},
		"behind one":                   {of("b"), "c", -1},
		"the first":                    {of("b", "d", "f"), "b", 0},
		"one between":                  {of("b", "d", "f"), "d", 1},
		"the last":                     {of("b", "d", "f"), "f", 2},
		"ahead of all":                 {of("b", "d", "f"), "a", -1},
		"between two":                  {of("b", "d", "f"), "c", -1},
		"between the last two":         {of("b", "d", "f"), "e", -1},
		"behind all":                   {of("b", "d", "f"), "g", -1},
		"the empty text, ahead of all": {of("b", "d", "f"), "", -1},
		"the empty text, that stands":  {of("", "d", "f"), "", 0},
		"the empty text, as the last":  {of("d", "f", ""), "", 2},
		"a beginning":                  {of("aa", "ab"), "a", -1},
		"what goes on":                 {of("a", "b"), "aa", -1},
		"a beginning of the next":      {of("a", "aa", "aaa"), "aa", 1},
		"other letters":                {of("a"), "A", -1},
		"falling, the first":           {of("c", "b", "a"), "c", 0},
		"falling, one between":         {of("c", "b", "a"), "b", 1},
		"falling, the last":            {of("c", "b", "a"), "a", 2},
		"falling, between two":         {of("f", "d", "b"), "c", -1},
		"all equal":                    {of("a", "a", "a", "a", "a"), "a", 0},
		"all equal, another":           {of("a", "a", "a", "a", "a"), "b", -1},
		"twice, beside each other":     {of("a", "b", "b", "c"), "b", 1},
		"twice, at both ends":          {of("b", "a", "c", "b"), "b", 0},
		"twice, the later found first": {of("d", "a", "b", "c", "d", "e", "f"), "d", 0},
		"thrice, in rising pieces":     {of("a", "b", "c", "a", "b", "c", "a", "b", "c"), "c", 2},
		"in the second rising piece":   {of("a", "c", "b", "d"), "b", 2},
		"at the end of many":           {of("z", "y", "m", "n", "o", "a"), "a", 5},
		"no names":                     {of("{", "é", "A B", ""), "A B", 2},
		"no names, bytes that are cut": {of("\xc3", "\xc3\xa9"), "\xc3", 0},
		"a name in a row of others":    {of("\xff", "A", "a", "\x00"), "a", 2},
		"a long one":                   {of("a", strings.Repeat("a", 1_000)), strings.Repeat("a", 1_000), 1},
		"one that is not there":        {of("a", strings.Repeat("a", 1_000)), strings.Repeat("a", 999), -1},
	} {
		if got := goods.Find(x.l, x.sku); got != x.want {
			t.Errorf("%s: Find(%s, %q): %d, want %d", name, told(x.l), x.sku, got, x.want)
		}
		holdsFind(t, x.l, x.sku)
	}
}

// A Sku alone is asked for, in items that are wrong in all else.
func TestFindAsksForSkusAlone(t *testing.T) {
	l := []api.Item{item("b", "a", -1, true), item("c", "a", math.MaxInt64, false), item("d", "", math.MinInt64, true), item("e", "a", 0, false)}
	for i, x := range l {
		if got := goods.Find(l, x.Sku); got != i {
			t.Errorf("Find(%s, %q): %d, want %d", told(l), x.Sku, got, i)
		}
	}
	if got := goods.Find(l, "a"); got != -1 {
		t.Errorf("Find(%s) of a Category: %d, want -1", told(l), got)
	}
}

func TestFindInAllLittleLists(t *testing.T) {
	asked := []string{"", "\x00", "-", "a", "aa", "ab", "b", "c", "A", "é", "\xff"}
	lists(5, []string{"", "a", "aa", "b", "é"}, func(skus []string) {
		l := of(skus...)
		for _, sku := range asked {
			holdsFind(t, l, sku)
		}
	})
}

// Of a rising list of each length, each one that stands there, and what is beside it.
func TestFindInEachRisingList(t *testing.T) {
	all := skus(api.MaxItems)
	for n := range 40 {
		findsEach(t, all[:n])
	}
	findsEach(t, all[:api.MaxItems-1])
	findsEach(t, all)
}

func findsEach(t *testing.T, rising []string) {
	t.Helper()
	l := of(rising...)
	if !goods.Right(l) {
		t.Fatalf("Right(%s): false", told(l))
	}
	for i, sku := range rising {
		if got := goods.Find(l, sku); got != i {
			t.Fatalf("Find(%s, %q): %d, want %d", told(l), sku, got, i)
		}
		for _, beside := range []string{sku[:len(sku)-1] + "-", sku + "-", sku + "\x00", sku[:len(sku)-1], strings.ToUpper(sku)} {
			if got := goods.Find(l, beside); got != -1 {
				t.Fatalf("Find(%s, %q): %d, want -1", told(l), beside, got)
			}
		}
	}
	for _, end := range []string{"", "\x00", "a", "n", "n-", "o", "z", "\xff"} {
		if got := goods.Find(l, end); got != -1 {
			t.Fatalf("Find(%s, %q): %d, want -1", told(l), end, got)
		}
	}
}

// Of a list that is longer than one that is right, in each order that is plain.
func TestFindInLongLists(t *testing.T) {
	const n = api.MaxItems + 100
	rising := of(skus(n)...)
	falling := slices.Clone(rising)
	slices.Reverse(falling)
	turned := append(slices.Clone(rising[n/3:]), rising[:n/3]...)
	doubled := append(slices.Clone(rising), rising...)
	paired := make([]api.Item, 0, 2*n)
	for _, x := range rising {
		paired = append(paired, x, x)
	}
	for _, l := range [][]api.Item{rising, falling, turned, doubled, paired} {
		for _, x := range rising {
			holdsFind(t, l, x.Sku)
			holdsFind(t, l, x.Sku+"-")
		}
	}
}

func TestFindInListsOfAnyOrder(t *testing.T) {
	r := rand.New(rand.NewSource(101))
	for range 2_000 {
		texts := slices.Concat(skus(1+r.Intn(30)), []string{"", "A", "é"})
		l := make([]api.Item, r.Intn(60))
		for i := range l {
			l[i] = api.Item{Sku: texts[r.Intn(len(texts))], Category: "c", Price: int64(i)}
		}
		for _, sku := range texts {
			holdsFind(t, l, sku)
		}
		slices.SortStableFunc(l, func(x, y api.Item) int { return strings.Compare(x.Sku, y.Sku) }) // in order, with many twice
		for _, sku := range texts {
			holdsFind(t, l, sku)
		}
	}
}

// It ends soon also where no two items rise.
func TestFindInVeryLongLists(t *testing.T) {
	const n = 300_000
	falling := of(skus(n)...)
	slices.Reverse(falling)
	last := falling[n-1].Sku
	if got := goods.Find(falling, last); got != n-1 {
		t.Errorf("Find of the last of %d that fall: %d, want %d", n, got, n-1)
	}
	equal := make([]api.Item, n)
	if got := goods.Find(equal, ""); got != 0 {
		t.Errorf("Find of %d without names: %d, want 0", n, got)
	}
	if got := goods.Find(equal, "a"); got != -1 {
		t.Errorf("Find of none in %d without names: %d, want -1", n, got)
	}
}

// What follows

// Of a right list each Sku has one place: that at which Find tells it.
func TestEachSkuOfARightListHasOnePlace(t *testing.T) {
	lists(4, []string{"", "-", "0", "a", "a0", "b"}, func(skus []string) {
		l := of(skus...)
		if !goods.Right(l) {
			return
		}
		for i, x := range l {
			if got := goods.Find(l, x.Sku); got != i {
				t.Fatalf("Find(%s, %q): %d, want %d", told(l), x.Sku, got, i)
			}
		}
	})
}

// What holds everywhere

// What is handed in stays, with the room behind its end (R3); and what stands in that room plays no part.
func TestTheRoomBehindAList(t *testing.T) {
	for name, x := range map[string]struct {
		room []api.Item
		n    int
		want bool
	}{
		"right, and it would go on":        {of("a", "b", "c", "d", "e"), 3, true},
		"right, and it would fall":         {of("b", "c", "d", "a", "a"), 3, true},
		"right, and behind it no names":    {of("a", "b", "c", "", "A"), 3, true},
		"not right, and it would go on":    {of("a", "c", "b", "d", "e"), 3, false},
		"equal ones":                       {of("a", "a", "a", "d", "b"), 3, false},
		"no item, and behind it some":      {of("a", "b", "c", "d", "e"), 0, true},
		"MaxItems, and behind them others": {of(skus(api.MaxItems + 20)...), api.MaxItems, true},
	} {
		was := slices.Clone(x.room)
		l := x.room[:x.n]
		if got := goods.Right(l); got != x.want {
			t.Errorf("%s: Right(%s): %v, want %v", name, told(l), got, x.want)
		}
		for _, item := range was {
			if got, want := goods.Find(l, item.Sku), find(was[:x.n], item.Sku); got != want {
				t.Errorf("%s: Find(%s, %q): %d, want %d", name, told(l), item.Sku, got, want)
			}
		}
		if !slices.Equal(x.room, was) {
			t.Errorf("%s: with the room behind its end: %s, want %s", name, told(x.room), told(was))
		}
	}
}

// What is handed in is not kept, and what was asked of others plays no part (R2, R3).
func TestListsAreNotKept(t *testing.T) {
	l := of("a", "c", "e")
	if !goods.Right(l) || goods.Find(l, "c") != 1 {
		t.Errorf("Right and Find of %s", told(l))
	}
	l[1].Sku = "b"
	if got := goods.Find(l, "c"); got != -1 {
		t.Errorf("Find(%s, c): %d, want -1", told(l), got)
	}
	if got := goods.Find(l, "b"); got != 1 {
		t.Errorf("Find(%s, b): %d, want 1", told(l), got)
	}
	l[2].Sku = "b"
	if goods.Right(l) {
		t.Errorf("Right(%s): true", told(l))
	}
	l[2].Sku = "e"
	for range 3 {
		if !goods.Right(l) || goods.Find(l, "e") != 2 || goods.Right(of("b", "a")) || goods.Find(of("e"), "e") != 0 {
			t.Errorf("Right and Find of %s, asked again", told(l))
		}
	}
}
