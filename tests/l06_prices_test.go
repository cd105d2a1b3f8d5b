package tests

import (
	"fmt"
	"math"
	"slices"
	"strings"
	"testing"

	"loop.example/g01398/impl"
)

// This file has what chapter 6 says of single prices, of words that can be bought, and of the texts of prices.

// allPrices are the same for each letter.
func allPrices(letter, gold, base, fill int16) impl.Prices {
	p := impl.Prices{Gold: gold, Base: base, Fill: fill}
	for i := range p.Letter {
		p.Letter[i] = letter
	}
	return p
}

// examplePrices are 15 for each letter of the plain face, and 10 for a text.
func examplePrices() impl.Prices { return allPrices(5, 1, 10, 0) }

// alphabetPrices are 1 for "A", 2 for "B", and so on.
func alphabetPrices(gold, base, fill int16) impl.Prices {
	p := impl.Prices{Gold: gold, Base: base, Fill: fill}
	for i := range p.Letter {
		p.Letter[i] = int16(i + 1)
	}
	return p
}

func goodPrices() []impl.Prices {
	return []impl.Prices{examplePrices(), {}, allPrices(impl.MaxPrice, impl.MaxPrice, impl.MaxPrice, impl.MaxPrice), alphabetPrices(2, 100, 7), allPrices(0, 0, 1000, 0), allPrices(0, 1000, 0, 1000), allPrices(1000, 0, 0, 0)}
}

// numbersOf are all numbers of prices, in the order of their text.
func numbersOf(p *impl.Prices) []*int16 {
	var numbers []*int16
	for i := range p.Letter {
		numbers = append(numbers, &p.Letter[i])
	}
	return append(numbers, &p.Gold, &p.Base, &p.Fill)
}

// badPrices are not valid, each ones for another reason.
func badPrices() map[string]impl.Prices {
	bad := map[string]impl.Prices{"all too great": allPrices(1001, 1001, 1001, 1001), "all too small": allPrices(-1, -1, -1, -1)}
	for _, n := range []int16{-1, -1000, math.MinInt16, impl.MaxPrice + 1, math.MaxInt16} {
		for _, at := range []int{0, 12, 25, 26, 27, 28} {
			p := examplePrices()
			*numbersOf(&p)[at] = n
			bad[fmt.Sprint(n, " at ", at)] = p
		}
	}
	return bad
}

func TestP12PricesThatAreValid(t *testing.T) {
	for _, p := range goodPrices() {
		is(t, fmt.Sprint("ValidPrices ", p), impl.ValidPrices(p), true)
	}
	for name, p := range badPrices() {
		is(t, "ValidPrices, "+name, impl.ValidPrices(p), false)
	}
	for at := range 29 {
		for _, n := range []int16{math.MinInt16, -1001, -1000, -256, -1, 0, 1, 999, 1000, 1001, 1256, math.MaxInt16} {
			p := examplePrices()
			*numbersOf(&p)[at] = n
			is(t, fmt.Sprint("ValidPrices with ", n, " at ", at), impl.ValidPrices(p), 0 <= n && n <= 1000)
		}
	}
	for n := math.MinInt16; n <= math.MaxInt16; n++ {
		is(t, fmt.Sprint("ValidPrices ", n), impl.ValidPrices(allPrices(int16(n), 1, 1, 1)), 0 <= n && n <= 1000)
		is(t, fmt.Sprint("ValidPrices with Fill ", n), impl.ValidPrices(allPrices(1, 1, 1, int16(n))), 0 <= n && n <= 1000)
	}
}

func hasPrice(t *testing.T, f impl.Face, p impl.Prices, text string, want int64) {
	t.Helper()
	price, code := impl.PriceOf(f, p, text)
	is(t, fmt.Sprint("PriceOf ", text, " with ", p), []any{price, code}, []any{want, 0})
}

func TestP12ExampleOfPrices(t *testing.T) {
	f, p := plainFace(), examplePrices()
	hasPrice(t, f, p, "AVE", 55)
	hasPrice(t, f, p, "AVE VIA", 100)
	canBuy(t, f, p, "AVE VIA", 70, 1)
}

func TestP12WhatTextsCost(t *testing.T) {
	f, p := unevenFace(), alphabetPrices(0, 0, 0)
	for i, l := range strings.Split("ABCDEFGHIJKLMNOPQRSTUVWXYZ", "") {
		n := int64(i + 1)
		hasPrice(t, f, p, l, n)
		hasPrice(t, f, alphabetPrices(2, 100, 7), l, 100+n+2*n)
		hasPrice(t, plainFace(), alphabetPrices(2, 100, 7), l, 100+n+20)
		hasPrice(t, f, allPrices(0, 3, 0, 0), l, 3*n)
	}
	hasPrice(t, f, p, "", 0)
	hasPrice(t, f, alphabetPrices(2, 100, 7), "", 100)
	// Neither gaps, nor pairs, nor spaces cost anything; Fill does not count here.
	hasPrice(t, f, alphabetPrices(2, 100, 1000), "ABBACC", 100+12+24)
	hasPrice(t, f, alphabetPrices(2, 100, 1000), "A BB AC C", 100+12+24)
	hasPrice(t, exampleFace(), examplePrices(), "AVE VIA", 100)
	// All that is free, and all that costs most.
	hasPrice(t, f, impl.Prices{}, "AVE VIA", 0)
	full := strings.Repeat("M", impl.MaxText)
	wide := plainFace()
	wide.Wide['M'-'A'] = impl.MaxLetter
	hasPrice(t, wide, allPrices(1000, 1000, 1000, 1000), full, 1000+60*1000+60*40*1000)
	hasPrice(t, wide, allPrices(0, 0, 1000, 0), full, 1000)
	hasPrice(t, wide, allPrices(1000, 0, 0, 0), full, 60000)
	hasPrice(t, wide, allPrices(0, 1000, 0, 0), full, 2400000)
}

func canBuy(t *testing.T, f impl.Face, p impl.Prices, text string, budget, want int64) {
	t.Helper()
	words, code := impl.WordsFor(f, p, text, budget)
	is(t, fmt.Sprint("WordsFor ", text, " with ", budget), []any{words, code}, []any{want, 0})
}

func canBuyMost(t *testing.T, f impl.Face, p impl.Prices, text string, budget, price int64, want ...int64) {
	t.Helper()
	words, paid, code := impl.MostWords(f, p, text, budget)
	is(t, fmt.Sprint("MostWords ", text, " with ", budget), []any{words, paid, code}, []any{want, price, 0})
}

// cannotBuy looks at budgets that are not enough for anything, and others that are none.
func cannotBuy(t *testing.T, f impl.Face, p impl.Prices, text string, budget, want, wantMost int64) {
	t.Helper()
	name := fmt.Sprint(" ", text, " with ", budget)
	words, code := impl.WordsFor(f, p, text, budget)
	isCode(t, "WordsFor"+name, code, want, words)
	list, price, code := impl.MostWords(f, p, text, budget)
	isCode(t, "MostWords"+name, code, wantMost, list, price)
}

func TestP12WordsFromTheFirstOneOn(t *testing.T) {
	f, p := plainFace(), examplePrices()
	// "AVE" costs 45, "VI" 30, and "A" 15. The budget is just enough, and 1 less.
	for _, c := range []struct {
		text         string
		budget, want int64
	}{
		{"AVE VI A", 10, 0}, {"AVE VI A", 54, 0}, {"AVE VI A", 55, 1}, {"AVE VI A", 84, 1}, {"AVE VI A", 85, 2}, {"AVE VI A", 99, 2}, {"AVE VI A", 100, 3}, {"AVE VI A", 101, 3}, {"AVE VI A", impl.MaxBudget, 3},
		{"A VI AVE", 24, 0}, {"A VI AVE", 25, 1}, {"A VI AVE", 54, 1}, {"A VI AVE", 55, 2}, {"A VI AVE", 99, 2}, {"A VI AVE", 100, 3},
		{"", 10, 0}, {"", impl.MaxBudget, 0}, {"A", 24, 0}, {"A", 25, 1}, {"AVE VIA", 70, 1},
		// There is enough for a later word, but not for one ahead of it.
		{"AVE A A A", 54, 0}, {"A AVE A", 40, 1},
	} {
		canBuy(t, f, p, c.text, c.budget, c.want)
	}
	// Words that cost nothing.
	free := alphabetPrices(0, 10, 0)
	free.Letter[0] = 0
	canBuy(t, f, free, "A AA B", 10, 2)
	canBuy(t, f, free, "A AA B", 11, 2)
	canBuy(t, f, free, "A AA B A", 12, 4)
	canBuy(t, f, free, "B A AA", 10, 0)
	canBuy(t, f, impl.Prices{}, "AVE VIA", 0, 2)
	canBuy(t, f, impl.Prices{}, "", 0, 0)
	canBuy(t, f, allPrices(1, 0, 0, 0), "AVE VIA", 0, 0)
	// It takes any number of words.
	thirty := strings.Repeat("A ", 29) + "A"
	canBuy(t, f, p, thirty, 10+30*15, 30)
	canBuy(t, f, p, thirty, 10+30*15-1, 29)
	canBuy(t, f, p, thirty, 10+11*15, 11)
	canBuy(t, f, p, thirty, 10, 0)
	// What costs more than any budget.
	wide := plainFace()
	wide.Wide[0] = impl.MaxLetter
	dear := allPrices(1000, 1000, 1000, 1000)
	canBuy(t, wide, dear, thirty, impl.MaxBudget, 24)
	canBuy(t, wide, dear, thirty, 1000+24*41000, 24)
	canBuy(t, wide, dear, thirty, 1000+24*41000-1, 23)
	canBuy(t, wide, dear, strings.Repeat("A", 25), impl.MaxBudget, 0)
	canBuy(t, wide, dear, strings.Repeat("A", 24), impl.MaxBudget, 1)
}

func TestP12MostWords(t *testing.T) {
	f, p := plainFace(), examplePrices()
	for _, c := range []struct {
		text          string
		budget, price int64
		words         string
	}{
		{"AVE VI A", 60, 55, "12"},
		{"AVE VI A", 10, 10, ""}, {"AVE VI A", 24, 10, ""}, {"AVE VI A", 25, 25, "2"}, {"AVE VI A", 54, 25, "2"}, {"AVE VI A", 55, 55, "12"}, {"AVE VI A", 99, 55, "12"}, {"AVE VI A", 100, 100, "012"}, {"AVE VI A", impl.MaxBudget, 100, "012"},
		{"", 10, 10, ""}, {"", impl.MaxBudget, 10, ""}, {"A", 24, 10, ""}, {"A", 25, 25, "0"},
		// Of several lists the cheapest one, though a list ahead of it is not too dear.
		{"AA B C", 54, 40, "12"}, {"AA B C", 69, 40, "12"}, {"AA B C", 55, 40, "12"}, {"AA B C", 70, 70, "012"},
		{"AVE A", 55, 25, "1"}, {"AVE A", 69, 25, "1"}, {"AVE A", 70, 70, "01"},
		{"AVE VI A AVE", 60, 55, "12"}, {"AVE AA A BBB C", 70, 70, "124"}, {"AVE AA A BBB C", 69, 40, "24"},
		// Of several of these the one that comes first.
		{"A B C", 25, 25, "0"}, {"A B C", 40, 40, "01"}, {"A B C", 54, 40, "01"}, {"A A A A", 40, 40, "01"}, {"AA B C D", 40, 40, "12"}, {"AA B BB D AA C", 85, 85, "0135"}, {"AA BB C DD", 55, 55, "02"}, {"C AA BB", 69, 55, "01"}, {"AA BB C DD", 84, 55, "02"},
		// More words rather than longer ones.
		{"AVEVIA A B", 100, 40, "12"}, {"AAAA B CC D", 69, 40, "13"}, {"AAAA B CC D", 70, 70, "123"},
	} {
		canBuyMost(t, f, p, c.text, c.budget, c.price, digits(c.words)...)
	}
}

func TestP12MostWordsThatCostLittle(t *testing.T) {
	f := plainFace()
	free := alphabetPrices(0, 10, 0)
	free.Letter[0] = 0
	canBuyMost(t, f, free, "A AA B", 10, 10, 0, 1)
	canBuyMost(t, f, free, "B A AA", 11, 10, 1, 2)
	canBuyMost(t, f, free, "B A AA", 12, 12, 0, 1, 2)
	canBuyMost(t, f, free, "C B A D", 13, 12, 1, 2)
	canBuyMost(t, f, impl.Prices{}, "AVE VIA", 0, 0, 0, 1)
	canBuyMost(t, f, impl.Prices{}, "", 0, 0)
	canBuyMost(t, f, allPrices(1, 0, 0, 0), "AVE VIA", 0, 0)
	// Gold counts, too: of words of one letter the narrower ones are cheaper.
	canBuyMost(t, unevenFace(), allPrices(5, 1, 10, 0), "Z B A C", 10+6+7, 23, 1, 2)
	canBuyMost(t, unevenFace(), allPrices(5, 1, 10, 0), "Z B A C", 10+6+7+8, 31, 1, 2, 3)
	canBuyMost(t, unevenFace(), allPrices(5, 1, 10, 0), "Z B A C", 10+6+7+7, 23, 1, 2)
}

func TestP12JustMaxChoiceWords(t *testing.T) {
	f, p := plainFace(), examplePrices()
	canBuyMost(t, f, p, "A B C D E F G H I J", 160, 160, numbersBelow(10)...)
	canBuyMost(t, f, p, "A B C D E F G H I J", 159, 145, numbersBelow(9)...)
	canBuyMost(t, f, p, "AA B C D E F G H I J", 174, 145, numbersBelow(10)[1:]...)
	canBuyMost(t, f, p, "A B C D EE F G H I J", 174, 145, 0, 1, 2, 3, 5, 6, 7, 8, 9)
	canBuyMost(t, f, p, "A B C D E F G H I J", 10, 10)
	wide := plainFace()
	wide.Wide[0] = impl.MaxLetter
	canBuyMost(t, wide, allPrices(1000, 1000, 1000, 0), strings.Repeat("AAA ", 9)+"AAA", impl.MaxBudget, 985000, numbersBelow(8)...)
	for _, text := range []string{"A B C D E F G H I J K", strings.Repeat("A ", 29) + "A"} {
		for _, budget := range []int64{0, 9, 10, 25, impl.MaxBudget} {
			words, price, code := impl.MostWords(f, p, text, budget)
			isCode(t, fmt.Sprint("MostWords ", text, " with ", budget), code, impl.ErrLimit, words, price)
		}
	}
}

func TestP12BudgetsThatAreTooSmallOrNone(t *testing.T) {
	f, p := plainFace(), examplePrices()
	eleven := "A B C D E F G H I J K"
	for _, text := range []string{"", "A", "AVE VI A", "A B C D E F G H I J"} {
		// Even no words cost more.
		cannotBuy(t, f, p, text, 9, impl.ErrNotFound, impl.ErrNotFound)
		cannotBuy(t, f, p, text, 0, impl.ErrNotFound, impl.ErrNotFound)
		cannotBuy(t, f, allPrices(0, 0, 1, 0), text, 0, impl.ErrNotFound, impl.ErrNotFound)
		cannotBuy(t, f, allPrices(0, 0, 1000, 0), text, 999, impl.ErrNotFound, impl.ErrNotFound)
		canBuy(t, f, allPrices(1, 0, 1000, 0), text, 1000, 0)
		canBuyMost(t, f, allPrices(1, 0, 1000, 0), text, 1000, 1000)
	}
	cannotBuy(t, f, p, eleven, 9, impl.ErrNotFound, impl.ErrLimit)
	for _, budget := range append(oddCounts(), -1) {
		for _, text := range []string{"", "AVE VI A", eleven} {
			cannotBuy(t, f, p, text, budget, impl.ErrRange, impl.ErrRange)
			cannotBuy(t, f, impl.Prices{}, text, budget, impl.ErrRange, impl.ErrRange)
			cannotBuy(t, f, allPrices(0, 0, 1000, 0), text, budget, impl.ErrRange, impl.ErrRange)
		}
	}
}

func isCheapest(t *testing.T, list []string, index, price int64) {
	t.Helper()
	best, least, code := impl.CheapestOf(plainFace(), alphabetPrices(1, 10, 1000), list)
	is(t, fmt.Sprintf("CheapestOf %q", list), []any{best, least, code}, []any{index, price, 0})
}

func TestP12CheapestTexts(t *testing.T) {
	// "A" costs 11, "B" 12, and so on.
	isCheapest(t, []string{"A"}, 0, 21)
	isCheapest(t, []string{""}, 0, 10)
	isCheapest(t, []string{"AAA", "BB", "Z"}, 1, 34)
	isCheapest(t, []string{"AAA", "Z", "BB"}, 2, 34)
	isCheapest(t, []string{"BB", "AAA", "Z"}, 0, 34)
	isCheapest(t, []string{"A", "B", "", "C"}, 2, 10)
	// Several cost as little.
	isCheapest(t, []string{"A", "A", "A"}, 0, 21)
	isCheapest(t, []string{"C", "AC", "BB", "CA", "C A", "X", "AC"}, 0, 23)
	isCheapest(t, []string{"ABC", "AC", "BB", "CA", "C A", "AC"}, 1, 34)
	isCheapest(t, []string{"ABC", "", "BB", ""}, 1, 10)
	isCheapest(t, []string{"A B", "AB", "BA"}, 0, 33)
	// Just 20 of them.
	twenty := append(slices.Repeat([]string{"B"}, 19), "A")
	isCheapest(t, twenty, 19, 21)
	isCheapest(t, slices.Repeat([]string{"B"}, 20), 0, 22)
	best, least, code := impl.CheapestOf(plainFace(), examplePrices(), []string{"AVE VIA", "AVE"})
	is(t, "CheapestOf the example", []any{best, least, code}, []any{1, 55, 0})
	// The narrowest letters, too, make a text cheap.
	best, least, code = impl.CheapestOf(unevenFace(), allPrices(0, 2, 10, 0), []string{"Z", "CA", "E", "AAAAA", "D", "B B"})
	is(t, "CheapestOf narrow letters", []any{best, least, code}, []any{1, 18, 0})
}

func TestP12CheapestOfNoTextsOrTooMany(t *testing.T) {
	f, p := plainFace(), examplePrices()
	isNone := func(name string, f impl.Face, p impl.Prices, list []string, want int64) {
		t.Helper()
		best, price, code := impl.CheapestOf(f, p, list)
		isCode(t, "CheapestOf, "+name, code, want, best, price)
	}
	many := slices.Repeat([]string{"AVE"}, 21)
	isNone("none", f, p, nil, impl.ErrNotFound)
	isNone("none", f, p, []string{}, impl.ErrNotFound)
	isNone("too many", f, p, many, impl.ErrLimit)
	isNone("too many without letters", f, p, make([]string, 21), impl.ErrLimit)
	isNone("far too many", f, p, slices.Repeat(many, 100), impl.ErrLimit)
	for _, bad := range badTexts() {
		isNone(bad, f, p, []string{bad}, impl.ErrInvalid)
		isNone(bad+", first", f, p, []string{bad, "A"}, impl.ErrInvalid)
		isNone(bad+", last of just 20", f, p, append(many[:19:19], bad), impl.ErrInvalid)
		isNone(bad+", last of too many", f, p, append(many[:20:20], bad), impl.ErrInvalid)
	}
	for _, list := range [][]string{nil, many[:1], many} {
		for name, bad := range badFaces() {
			isNone(name, bad, p, list, impl.ErrInvalid)
		}
		for name, bad := range badPrices() {
			isNone(name, f, bad, list, impl.ErrInvalid)
		}
	}
}

// pricesText writes prices, valid or not.
func pricesText(p impl.Prices) string {
	return strings.NewReplacer("{", "", "}", "", "[", "", "]", "").Replace(fmt.Sprint(p))
}

func TestP12TextsOfPrices(t *testing.T) {
	is(t, "PricesText", impl.PricesText(alphabetPrices(200, 100, 7)), "1 2 3 4 5 6 7 8 9 10 11 12 13 14 15 16 17 18 19 20 21 22 23 24 25 26 200 100 7")
	is(t, "PricesText of MaxPrice", impl.PricesText(allPrices(1000, 1000, 1000, 1000)), strings.Repeat("1000 ", 28)+"1000")
	is(t, "PricesText of nothing", impl.PricesText(impl.Prices{}), strings.Repeat("0 ", 28)+"0")
	for _, p := range goodPrices() {
		text := pricesText(p)
		is(t, "PricesText", impl.PricesText(p), text)
		read, code := impl.ReadPrices(text)
		is(t, "ReadPrices "+text, []any{read, code}, []any{p, 0})
	}
	for name, p := range badPrices() {
		is(t, "PricesText, "+name, impl.PricesText(p), "")
		read, code := impl.ReadPrices(pricesText(p))
		isCode(t, "ReadPrices, "+name, code, impl.ErrSyntax, read)
	}
	// Each number is at a place of its own.
	for at := range 29 {
		for _, n := range []int16{0, 1, 9, 10, 99, 100, 127, 128, 255, 256, 999, 1000} {
			p := alphabetPrices(200, 300, 400)
			*numbersOf(&p)[at] = n
			words := strings.Fields(pricesText(alphabetPrices(200, 300, 400)))
			words[at] = fmt.Sprint(n)
			is(t, fmt.Sprint("PricesText with ", n, " at ", at), impl.PricesText(p), strings.Join(words, " "))
			read, code := impl.ReadPrices(strings.Join(words, " "))
			is(t, fmt.Sprint("ReadPrices with ", n, " at ", at), []any{read, code}, []any{p, 0})
		}
	}
}

func TestP12TextsOfNoPrices(t *testing.T) {
	isNone := func(text string) {
		t.Helper()
		read, code := impl.ReadPrices(text)
		isCode(t, fmt.Sprintf("ReadPrices %q", text), code, impl.ErrSyntax, read)
	}
	right := pricesText(alphabetPrices(200, 100, 7))
	for _, text := range []string{
		"", " ", "0", "1 2", "x", right[2:], strings.TrimSuffix(right, " 7"), strings.TrimSuffix(right, " 100 7"), right + " 1", right + " 0", "1 " + right, right + " ", " " + right, right + "\n", right + "\x00", right + ";", "[" + right + "]", right + " " + right, right + right,
		strings.ReplaceAll(right, " ", ","), strings.ReplaceAll(right, " ", ";"), strings.ReplaceAll(right, " ", "  "), strings.ReplaceAll(right, " ", "\t"), strings.Replace(right, " ", "  ", 1), strings.Replace(right, " ", "\n", 1), strings.Replace(right, " 25", "", 1), strings.Replace(right, " 26 ", ";", 1), strings.Repeat(" ", 28),
	} {
		isNone(text)
	}
	for _, number := range []string{"", "00", "01", "001", "+1", "-1", "-0", "+0", "1001", "01000", "32767", "32768", "65535", "65536", "65537", "65546", "4294967297", "18446744073709551617", "99999999999999999999", "1e1", "0x1", "1_0", "1.0", "a", "A", "?", "١", "１", "1 ", " 1", "\x01"} {
		isNone(number + right[1:])
		isNone(strings.Replace(right, " 13 ", " "+number+" ", 1))
		isNone(strings.Replace(right, " 200 ", " "+number+" ", 1))
		isNone(strings.TrimSuffix(right, "7") + number)
	}
}
