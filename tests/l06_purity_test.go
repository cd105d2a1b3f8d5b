package tests

import (
	"fmt"
	"math"
	"slices"
	"strings"
	"sync"
	"testing"

	"loop.example/g01398/impl"
)

// This file holds all functions of chapter 6 to promise 1, with the conventions behind it: each call gets the same arguments.

type goldArgs struct {
	face        impl.Face
	sheet       impl.Sheet
	prices      impl.Prices
	text, other string
	list        []string
	sheets      []int64
	num         int64
	book        []int64
}

func goldCalls() []call[goldArgs] {
	two := func(a any, code int64) []any { return []any{a, code} }
	three := func(a, b any, code int64) []any { return []any{a, b, code} }
	return []call[goldArgs]{
		{"ValidSheet", func(a goldArgs) []any { return []any{impl.ValidSheet(a.sheet)} }, false},
		{"PiecesFor", func(a goldArgs) []any { r, c := impl.PiecesFor(a.face, a.sheet, a.text); return two(r, c) }, true},
		{"SheetBound", func(a goldArgs) []any { r, c := impl.SheetBound(a.face, a.sheet, a.text); return two(r, c) }, true},
		{"NextSheets", func(a goldArgs) []any { r, n, c := impl.NextSheets(a.face, a.sheet, a.text); return three(r, n, c) }, true},
		{"FirstSheets", func(a goldArgs) []any { r, n, c := impl.FirstSheets(a.face, a.sheet, a.text); return three(r, n, c) }, true},
		{"FewestSheets", func(a goldArgs) []any {
			r, n, c := impl.FewestSheets(a.face, a.sheet, a.text)
			return three(r, n, c)
		}, true},
		{"CheckSheets", func(a goldArgs) []any {
			r, c := impl.CheckSheets(a.face, a.sheet, a.text, a.sheets)
			return two(r, c)
		}, true},
		{"RestsOf", func(a goldArgs) []any {
			r, c := impl.RestsOf(a.face, a.sheet, a.text, a.sheets)
			return two(r, c)
		}, true},
		{"ValidPrices", func(a goldArgs) []any { return []any{impl.ValidPrices(a.prices)} }, false},
		{"PriceOf", func(a goldArgs) []any { r, c := impl.PriceOf(a.face, a.prices, a.text); return two(r, c) }, true},
		{"WordsFor", func(a goldArgs) []any {
			r, c := impl.WordsFor(a.face, a.prices, a.text, a.num)
			return two(r, c)
		}, true},
		{"MostWords", func(a goldArgs) []any {
			r, n, c := impl.MostWords(a.face, a.prices, a.text, a.num)
			return three(r, n, c)
		}, true},
		{"CheapestOf", func(a goldArgs) []any { i, r, c := impl.CheapestOf(a.face, a.prices, a.list); return three(i, r, c) }, true},
		{"KeptAt", func(a goldArgs) []any { r, c := impl.KeptAt(a.face, a.other, a.text, a.num); return two(r, c) }, true},
		{"BestShift", func(a goldArgs) []any { r, n, c := impl.BestShift(a.face, a.other, a.text); return three(r, n, c) }, true},
		{"RecutPrice", func(a goldArgs) []any {
			r, c := impl.RecutPrice(a.face, a.prices, a.other, a.text)
			return two(r, c)
		}, true},
		{"StockAfter", func(a goldArgs) []any { r, c := impl.StockAfter(a.num, a.book); return two(r, c) }, true},
		{"FirstShort", func(a goldArgs) []any { r, c := impl.FirstShort(a.num, a.book); return two(r, c) }, true},
		{"LeastStart", func(a goldArgs) []any { r, c := impl.LeastStart(a.book); return two(r, c) }, true},
		{"PricesText", func(a goldArgs) []any { return []any{impl.PricesText(a.prices)} }, false},
		{"ReadPrices", func(a goldArgs) []any { r, c := impl.ReadPrices(a.text); return two(r, c) }, true},
	}
}

// The functions that take a face, a sheet, prices, a text, and an old one, all of which have to be valid.
var (
	goldWithSheet  = []string{"PiecesFor", "SheetBound", "NextSheets", "FirstSheets", "FewestSheets", "CheckSheets", "RestsOf"}
	goldWithPrices = []string{"PriceOf", "WordsFor", "MostWords", "CheapestOf", "RecutPrice"}
	goldWithOther  = []string{"KeptAt", "BestShift", "RecutPrice"}
	goldWithFace   = slices.Concat(goldWithSheet, goldWithPrices, []string{"KeptAt", "BestShift"})
	goldWithText   = slices.Concat(goldWithSheet, []string{"PriceOf", "WordsFor", "MostWords", "KeptAt", "BestShift", "RecutPrice"})
)

func goldNumbers() [][]int64 {
	return [][]int64{nil, {0}, {0, 0, 1}, {0, 1, 0, 2, 0, 3, 7}, {59, 59, 0}, {59}, {60}, {-1}, {-1, 0, 1}, {3, -5, 1}, {-1000, 1000}, {1001}, {math.MaxInt64, math.MinInt64}, numbersBelow(impl.MaxText), make([]int64, impl.MaxText), slices.Repeat([]int64{-1}, 61), make([]int64, 1000)}
}

func goldTexts() []string {
	return []string{"", "A", "AVE", "AVE VIA", "NAVE", "ABACABA", "A B C D E F G H I J", "A B C D E F G H I J K", "ABCDEFGHI", "ABCDEFGHIJ", strings.Repeat("M", impl.MaxText), strings.Repeat("A ", 29) + "A", pricesText(examplePrices()), pricesText(allPrices(1000, 0, 1000, 0)), "1 2"}
}

// goldCases are ordinary arguments, each with all others, and others of all kinds.
func goldCases() []goldArgs {
	faces := []impl.Face{plainFace(), exampleFace(), unevenFace(), plainFace(manyPairs(impl.MaxPairs)...)}
	lists := [][]string{nil, {""}, {"AVE VIA", "AVE"}, slices.Repeat([]string{"A", "B"}, 10), slices.Repeat([]string{"A", "B", "C"}, 7), {"AVE", "ave"}}
	counts := append(oddCounts(), -1, 0, 1, 10, 12, -12, 55, 100, 400, -400, 401, -401, impl.MaxBudget)
	numbers := goldNumbers()
	var cases []goldArgs
	for i, text := range goldTexts() {
		for j, other := range goldTexts() {
			for k, n := range counts {
				m := i + j + k
				cases = append(cases, goldArgs{faces[m%4], goodSheets()[(i+k)%7], goodPrices()[(j+k)%7], text, other, lists[m%len(lists)], numbers[(i+j+2*k)%len(numbers)], n, numbers[(i+2*j+k)%len(numbers)]})
			}
		}
	}
	ordinary := goldArgs{exampleFace(), exampleSheet(), examplePrices(), "AVE", "NAVE", []string{"AVE VIA", "AVE"}, []int64{0, 0, 1}, 70, []int64{3, -5, 1}}
	for _, n := range counts {
		ordinary.num = n
		cases = append(cases, ordinary)
		add := func(change func(a *goldArgs)) {
			a := ordinary
			change(&a)
			cases = append(cases, a)
		}
		for _, f := range badFaces() {
			add(func(a *goldArgs) { a.face = f })
		}
		for _, s := range badSheets() {
			add(func(a *goldArgs) { a.sheet = s })
		}
		for _, p := range badPrices() {
			add(func(a *goldArgs) { a.prices = p })
		}
		for _, text := range badTexts() {
			add(func(a *goldArgs) { a.text, a.list = text, []string{"A", text} })
			add(func(a *goldArgs) { a.other = text })
		}
	}
	return cases
}

func TestP1GoldReturnsForAllArguments(t *testing.T) {
	for _, a := range goldCases() {
		for _, c := range goldCalls() {
			isCall(t, c, a)
		}
	}
}

func TestP1GoldReturnsForAllSheetsAndPrices(t *testing.T) {
	// Also what is not valid, such as a sheet that is not wide at all.
	for n := math.MinInt16; n <= math.MaxInt16; n += 97 {
		for _, wide := range []int16{int16(n), math.MinInt16, -1, 0, 1, 50, 400, 401, math.MaxInt16} {
			s := impl.Sheet{Wide: wide, Over: int8(n)}
			p := allPrices(int16(n), wide, int16(n), wide)
			for _, text := range []string{"", "AVE", "AVE VIA"} {
				a := goldArgs{plainFace(), s, p, text, "NAVE", []string{text}, []int64{0, 0, 1}, int64(n), []int64{int64(n), int64(wide)}}
				for _, c := range goldCalls() {
					isCall(t, c, a)
				}
			}
		}
	}
}

func TestP1GoldReturnsForGreatArguments(t *testing.T) {
	const great = 1_000_000
	f := plainFace()
	f.Pairs = make([]impl.Pair, great)
	texts := []string{strings.Repeat("A", great), strings.Repeat("A ", great/2), strings.Repeat(" ", great), strings.Repeat("1 ", great/2), strings.Repeat("1", great), pricesText(examplePrices()) + strings.Repeat(" ", great), strings.Repeat("0 ", 28) + strings.Repeat("0", great)}
	lists := [][]string{make([]string, great), slices.Repeat([]string{"AVE"}, great), {strings.Repeat("A", great)}, append(slices.Repeat([]string{"AVE"}, great-1), "a")}
	numbers := [][]int64{make([]int64, great), numbersBelow(great), slices.Repeat([]int64{math.MaxInt64}, great), slices.Repeat([]int64{math.MinInt64}, great), slices.Repeat([]int64{-1000}, great)}
	for i, text := range texts {
		a := goldArgs{f, exampleSheet(), examplePrices(), text, text, lists[i%4], numbers[i%5], math.MaxInt64, numbers[i%5]}
		b := goldArgs{plainFace(), exampleSheet(), examplePrices(), "AVE", text, lists[i%4], numbers[i%5], 400, numbers[i%5]}
		for _, c := range goldCalls() {
			results := c.run(a)
			if c.code && results[len(results)-1] == int64(impl.OK) {
				t.Errorf("%s takes great arguments", c.name)
			}
			isCall(t, c, a)
			isCall(t, c, b)
		}
	}
}

func TestP1GoldOfEqualArgumentsIsEqual(t *testing.T) {
	haveEqualResults(t, goldCases(), goldCalls(), func(a goldArgs) goldArgs {
		a.face.Pairs, a.list, a.sheets, a.book = elsewhere(a.face.Pairs), elsewhere(a.list), elsewhere(a.sheets), elsewhere(a.book)
		a.text, a.other = strings.Clone(a.text), strings.Clone(a.other)
		return a
	})
}

func TestP1GoldOfManyCallsAtOnce(t *testing.T) {
	var calls sync.WaitGroup
	for _, text := range goldTexts() {
		a := goldArgs{exampleFace(), impl.Sheet{Wide: 30, Over: 1}, examplePrices(), text, "AVE VIA", goldTexts()[:5], []int64{0, 0, 1}, 70, []int64{3, -5, 1}}
		for _, c := range goldCalls() {
			want := fmt.Sprint(c.run(a))
			for range 3 {
				calls.Go(func() {
					is(t, c.name+" at once", fmt.Sprint(c.run(a)), want)
				})
			}
		}
	}
	calls.Wait()
}

func TestP1GoldLeavesNoGoroutines(t *testing.T) {
	cases := goldCases()
	leaveNoGoroutines(t, func() {
		for i := 0; i < len(cases); i += 7 {
			for _, c := range goldCalls() {
				c.run(cases[i])
			}
		}
	})
}

func guardGold(a goldArgs) (goldArgs, func() bool) {
	pairs := guard(&a.face.Pairs, impl.Pair{A: 'X', B: 'Y', By: 9})
	list := guard(&a.list, "SPARE")
	sheets := guard(&a.sheets, 1)
	book := guard(&a.book, 7)
	return a, func() bool { return pairs() && list() && sheets() && book() }
}

func TestP1GoldDoesNotModifyArguments(t *testing.T) {
	doNotModify(t, goldCases(), goldCalls(), guardGold)
}

func TestP1GoldSharesNoMemory(t *testing.T) {
	shareNoMemory(t, goldCases(), goldCalls(), guardGold)
}

func TestP1InvalidArgumentsOfGoldComeFirst(t *testing.T) {
	// Everything else is wrong too, or nothing else is, or only a limit is passed.
	wrong := goldArgs{plainFace(), impl.Sheet{Wide: 1}, allPrices(1, 1, 1000, 1), "AVE", "AVE", nil, []int64{-1, 0}, -1000, nil}
	right := goldArgs{plainFace(), exampleSheet(), examplePrices(), "AVE", "NAVE", []string{"AVE VIA", "AVE"}, []int64{0, 0, 1}, 70, []int64{3, -5, 1}}
	over := goldArgs{plainFace(), exampleSheet(), examplePrices(), "A B C D E F G H I J K", "AVE", slices.Repeat([]string{"A"}, 21), make([]int64, 61), impl.MaxBudget + 1, make([]int64, 61)}
	texts := map[string]string{}
	for _, text := range badTexts() {
		texts[text] = text
	}
	for _, a := range []goldArgs{wrong, right, over} {
		empty := a
		empty.text, empty.other = "", ""
		for _, c := range goldCalls() {
			for _, a := range []goldArgs{a, empty} {
				if slices.Contains(goldWithFace, c.name) {
					areErrors(t, c, a, impl.ErrInvalid, badFaces(), func(a *goldArgs, f impl.Face) { a.face = f })
				}
				if slices.Contains(goldWithSheet, c.name) {
					areErrors(t, c, a, impl.ErrInvalid, badSheets(), func(a *goldArgs, s impl.Sheet) { a.sheet = s })
				}
				if slices.Contains(goldWithPrices, c.name) {
					areErrors(t, c, a, impl.ErrInvalid, badPrices(), func(a *goldArgs, p impl.Prices) { a.prices = p })
				}
				if slices.Contains(goldWithOther, c.name) {
					areErrors(t, c, a, impl.ErrInvalid, texts, func(a *goldArgs, text string) { a.other = text })
				}
			}
			if slices.Contains(goldWithText, c.name) {
				areErrors(t, c, a, impl.ErrInvalid, texts, func(a *goldArgs, text string) { a.text = text })
			}
			if c.name == "CheapestOf" {
				areErrors(t, c, a, impl.ErrInvalid, texts, func(a *goldArgs, text string) { a.list = with(a.list, text) })
			}
		}
	}
}

// with returns a list with one more at its end, in other memory.
func with[T any](list []T, one T) []T { return append(slices.Clone(list), one) }

func TestP1GoldTellsNoOtherErrorOfValidArguments(t *testing.T) {
	// These functions have no other error.
	for _, a := range goldCases() {
		for _, c := range goldCalls() {
			if !slices.Contains([]string{"PiecesFor", "SheetBound", "CheckSheets", "PriceOf", "BestShift", "RecutPrice"}, c.name) {
				continue
			}
			results := c.run(a)
			code := results[len(results)-1].(int64)
			valid := impl.ValidFace(a.face) && impl.ValidText(a.text)
			if slices.Contains(goldWithSheet, c.name) {
				valid = valid && impl.ValidSheet(a.sheet)
			}
			if slices.Contains(goldWithPrices, c.name) {
				valid = valid && impl.ValidPrices(a.prices)
			}
			if slices.Contains(goldWithOther, c.name) {
				valid = valid && impl.ValidText(a.other)
			}
			if valid != (code == impl.OK) || !valid && code != impl.ErrInvalid {
				t.Errorf("%s returns the code %d of arguments that are valid: %t", c.name, code, valid)
			}
		}
	}
}
