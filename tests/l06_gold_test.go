package tests

import (
	"fmt"
	"math"
	"slices"
	"strings"
	"testing"

	"loop.example/g01398/impl"
)

// This file has the example of chapter 6, and what the document says of single sheets, pieces and books, one by one.

func exampleSheet() impl.Sheet { return impl.Sheet{Wide: 25, Over: 1} }

func goodSheets() []impl.Sheet {
	return []impl.Sheet{exampleSheet(), {Wide: 1, Over: 0}, {Wide: 1, Over: impl.MaxOver}, {Wide: impl.MaxSheet, Over: 0}, {Wide: impl.MaxSheet, Over: impl.MaxOver}, {Wide: 50, Over: 5}, {Wide: 49, Over: 4}}
}

// badSheets are not valid, each one for another reason.
func badSheets() map[string]impl.Sheet {
	bad := map[string]impl.Sheet{"zero": {}}
	for _, n := range []int16{0, -1, -25, math.MinInt16, impl.MaxSheet + 1, math.MaxInt16} {
		bad[fmt.Sprint(n, " wide")] = impl.Sheet{Wide: n, Over: 1}
	}
	for _, n := range []int8{-1, math.MinInt8, impl.MaxOver + 1, math.MaxInt8} {
		bad[fmt.Sprint(n, " over")] = impl.Sheet{Wide: 25, Over: n}
	}
	return bad
}

func TestP12SheetsThatAreValid(t *testing.T) {
	for _, s := range goodSheets() {
		is(t, fmt.Sprint("ValidSheet ", s), impl.ValidSheet(s), true)
	}
	for name, s := range badSheets() {
		is(t, "ValidSheet, "+name, impl.ValidSheet(s), false)
	}
	is(t, "limits", []int{impl.MaxSheet, impl.MaxOver, impl.MaxPrice, impl.MaxBudget, impl.MaxBatch, impl.MaxChoice, impl.MaxShift, impl.MaxBook}, []int{400, 5, 1000, 1000000, 9, 10, 400, 60})
	for n := math.MinInt16; n <= math.MaxInt16; n++ {
		is(t, fmt.Sprint("ValidSheet ", n), impl.ValidSheet(impl.Sheet{Wide: int16(n), Over: 0}), 1 <= n && n <= 400)
	}
	for n := math.MinInt8; n <= math.MaxInt8; n++ {
		is(t, fmt.Sprint("ValidSheet over ", n), impl.ValidSheet(impl.Sheet{Wide: 25, Over: int8(n)}), 0 <= n && n <= 5)
	}
}

// leaf is a line with the sheets for it.
type leaf struct {
	face  impl.Face
	sheet impl.Sheet
	text  string
}

// alphabetLeaf has pieces of 1 for "A", 2 for "B", and so on.
func alphabetLeaf(wide int16, text string) leaf {
	return leaf{unevenFace(), impl.Sheet{Wide: wide}, text}
}

func exampleLeaf(text string) leaf { return leaf{plainFace(), exampleSheet(), text} }

func (l leaf) name() string { return fmt.Sprint(" of ", l.text, " from ", l.sheet) }

func (l leaf) hasPieces(t *testing.T, bound int64, want ...int64) {
	t.Helper()
	pieces, code := impl.PiecesFor(l.face, l.sheet, l.text)
	is(t, "PiecesFor"+l.name(), []any{pieces, code}, []any{want, 0})
	least, code := impl.SheetBound(l.face, l.sheet, l.text)
	is(t, "SheetBound"+l.name(), []any{least, code}, []any{bound, 0})
}

func (l leaf) hasNext(t *testing.T, count int64, want ...int64) {
	t.Helper()
	sheets, n, code := impl.NextSheets(l.face, l.sheet, l.text)
	is(t, "NextSheets"+l.name(), []any{sheets, n, code}, []any{want, count, 0})
}

func (l leaf) hasFirst(t *testing.T, count int64, want ...int64) {
	t.Helper()
	sheets, n, code := impl.FirstSheets(l.face, l.sheet, l.text)
	is(t, "FirstSheets"+l.name(), []any{sheets, n, code}, []any{want, count, 0})
}

func (l leaf) hasFewest(t *testing.T, count int64, want ...int64) {
	t.Helper()
	sheets, n, code := impl.FewestSheets(l.face, l.sheet, l.text)
	is(t, "FewestSheets"+l.name(), []any{sheets, n, code}, []any{want, count, 0})
}

// isCutFrom looks at sheets that all three functions take.
func (l leaf) isCutFrom(t *testing.T, count int64, want ...int64) {
	t.Helper()
	l.hasNext(t, count, want...)
	l.hasFirst(t, count, want...)
	l.hasFewest(t, count, want...)
}

func (l leaf) isRight(t *testing.T, sheets []int64, rests ...int64) {
	t.Helper()
	right, code := impl.CheckSheets(l.face, l.sheet, l.text, sheets)
	is(t, fmt.Sprint("CheckSheets ", sheets, l.name()), []any{right, code}, []any{true, 0})
	left, code := impl.RestsOf(l.face, l.sheet, l.text, sheets)
	is(t, fmt.Sprint("RestsOf ", sheets, l.name()), []any{left, code}, []any{rests, 0})
}

func (l leaf) isNotRight(t *testing.T, sheets ...int64) {
	t.Helper()
	right, code := impl.CheckSheets(l.face, l.sheet, l.text, sheets)
	is(t, fmt.Sprint("CheckSheets ", sheets, l.name()), []any{right, code}, []any{false, 0})
	left, code := impl.RestsOf(l.face, l.sheet, l.text, sheets)
	isCode(t, fmt.Sprint("RestsOf ", sheets, l.name()), code, impl.ErrState, left)
}

// isNoLeaf looks that the functions that take sheets themselves have errors.
func (l leaf) isNoLeaf(t *testing.T, want, wantFewest int64) {
	t.Helper()
	sheets, n, code := impl.NextSheets(l.face, l.sheet, l.text)
	isCode(t, "NextSheets"+l.name(), code, want, sheets, n)
	sheets, n, code = impl.FirstSheets(l.face, l.sheet, l.text)
	isCode(t, "FirstSheets"+l.name(), code, want, sheets, n)
	sheets, n, code = impl.FewestSheets(l.face, l.sheet, l.text)
	isCode(t, "FewestSheets"+l.name(), code, wantFewest, sheets, n)
}

func TestP12ExampleOfLeaf(t *testing.T) {
	l := exampleLeaf("AVE")
	l.hasPieces(t, 2, 12, 12, 12)
	l.isCutFrom(t, 2, 0, 0, 1)
	l.isRight(t, []int64{0, 0, 1}, 1, 13)
	l.isNotRight(t, 0, 0, 0)
}

func TestP12Pieces(t *testing.T) {
	for over := range int8(impl.MaxOver + 1) {
		o := 2 * int64(over)
		for i, l := range strings.Split("ABCDEFGHIJKLMNOPQRSTUVWXYZ", "") {
			leaf{unevenFace(), impl.Sheet{Wide: 400, Over: over}, l}.hasPieces(t, 1, int64(i+1)+o)
		}
		// Neither gaps, nor pairs, nor spaces count.
		sheet := impl.Sheet{Wide: 3, Over: over}
		bound := (12 + 6*o + 2) / 3
		leaf{unevenFace(), sheet, "ABBACC"}.hasPieces(t, bound, 1+o, 2+o, 2+o, 1+o, 3+o, 3+o)
		leaf{unevenFace(), sheet, "A BB AC C"}.hasPieces(t, bound, 1+o, 2+o, 2+o, 1+o, 3+o, 3+o)
		leaf{unevenFace(), sheet, ""}.hasPieces(t, 0)
	}
	full := strings.Repeat("M", impl.MaxText)
	wide := plainFace()
	wide.Wide['M'-'A'] = impl.MaxLetter
	leaf{wide, impl.Sheet{Wide: 1, Over: impl.MaxOver}, full}.hasPieces(t, 3000, slices.Repeat([]int64{50}, 60)...)
	leaf{wide, impl.Sheet{Wide: impl.MaxSheet, Over: impl.MaxOver}, full}.hasPieces(t, 8, slices.Repeat([]int64{50}, 60)...)
	leaf{wide, impl.Sheet{Wide: impl.MaxSheet, Over: impl.MaxOver}, strings.Repeat("M ", 29) + "M"}.hasPieces(t, 4, slices.Repeat([]int64{50}, 30)...)
}

func TestP12BoundsAreRoundedUp(t *testing.T) {
	alphabetLeaf(10, "").hasPieces(t, 0)
	alphabetLeaf(400, "").hasPieces(t, 0)
	alphabetLeaf(10, "A").hasPieces(t, 1, 1)
	alphabetLeaf(10, "I").hasPieces(t, 1, 9)
	alphabetLeaf(10, "J").hasPieces(t, 1, 10)
	alphabetLeaf(10, "JA").hasPieces(t, 2, 10, 1)
	alphabetLeaf(10, "JI").hasPieces(t, 2, 10, 9)
	alphabetLeaf(10, "J J").hasPieces(t, 2, 10, 10)
	alphabetLeaf(10, "JJA").hasPieces(t, 3, 10, 10, 1)
	alphabetLeaf(1, "JJA").hasPieces(t, 21, 10, 10, 1)
	alphabetLeaf(20, "JJ").hasPieces(t, 1, 10, 10)
	alphabetLeaf(19, "JJ").hasPieces(t, 2, 10, 10)
	alphabetLeaf(21, "JJ").hasPieces(t, 1, 10, 10)
	// More sheets are needed than this: no two of the pieces go together.
	alphabetLeaf(25, "MMMM").hasPieces(t, 3, 13, 13, 13, 13)
	alphabetLeaf(25, "MMMM").isCutFrom(t, 4, 0, 1, 2, 3)
}

// digits are the numbers of a text, one for each byte.
func digits(text string) []int64 {
	var numbers []int64
	for _, b := range []byte(text) {
		numbers = append(numbers, int64(b-'0'))
	}
	return numbers
}

func countDifferent(list []int64) int64 {
	different := map[int64]bool{}
	for _, n := range list {
		different[n] = true
	}
	return int64(len(different))
}

func TestP12SheetsThatAreTaken(t *testing.T) {
	for _, c := range []struct {
		wide                int16
		text                string
		next, first, fewest string
	}{
		// No letters, and one.
		{30, "", "", "", ""},
		{30, "A", "0", "0", "0"},
		{26, "Z", "0", "0", "0"},
		// A sheet that is filled just, and one that is 1 too narrow.
		{30, "TJ", "00", "00", "00"},
		{29, "TJ", "01", "01", "01"},
		{31, "TJA", "000", "000", "000"},
		{30, "TJA", "001", "001", "001"},
		{30, "JJJ", "000", "000", "000"},
		{30, "J J J", "000", "000", "000"},
		{29, "J J J", "001", "001", "001"},
		{30, "JJJJJJJ", "0001112", "0001112", "0001112"},
		// A letter that fits only an earlier sheet: the last one on 10, with 9 left on the second sheet.
		{30, "TUJ", "012", "010", "010"},
		{30, "TTJ", "011", "010", "010"},
		{30, "TTJJ", "0112", "0101", "0101"},
		{30, "UUIK", "0112", "0102", "0102"},
		{30, "UUJI", "0122", "0120", "0120"},
		{20, "KTIB", "0122", "0102", "0102"},
		// The first one of several sheets on which there is so much.
		{20, "NNA", "011", "010", "010"},
		{20, "NOPAAA", "012222", "012000", "012000"},
		{20, "NNFFA", "01122", "01012", "01012"},
		{20, "NOPD", "0122", "0120", "0120"},
		{20, "PONE", "0122", "0121", "0121"},
		{20, "PONDED", "012233", "012012", "012012"},
		// Neither of both has the fewest sheets.
		{30, "NOOP", "0012", "0012", "0110"},
		{30, "NO OP", "0012", "0012", "0110"},
		{20, "EGHMOL", "000123", "000123", "012102"},
		{20, "EGHMOLA", "0001233", "0001231", "0001231"},
		{10, "DFDF", "0011", "0011", "0011"},
		{10, "DDFF", "0012", "0012", "0101"},
		{10, "BBDDFF", "000112", "000112", "000112"},
		{10, "CCCEEE", "000112", "000112", "000112"},
		{10, "DDFFD", "00122", "00121", "00121"},
		// Several lists with as few sheets.
		{20, "JJJ", "001", "001", "001"},
		{20, "JJAA", "0011", "0011", "0011"},
		{20, "ABCDE", "00000", "00000", "00000"},
		{26, "ZAZ", "012", "012", "012"},
		{27, "ZAZ", "001", "001", "001"},
		{27, "ZZA", "011", "010", "010"},
		{27, "AZZ", "001", "001", "001"},
	} {
		l := alphabetLeaf(c.wide, c.text)
		next, first, fewest := digits(c.next), digits(c.first), digits(c.fewest)
		l.hasNext(t, countDifferent(next), next...)
		l.hasFirst(t, countDifferent(first), first...)
		l.hasFewest(t, countDifferent(fewest), fewest...)
	}
}

func TestP12JustMaxBatchLetters(t *testing.T) {
	alphabetLeaf(26, "ZZZZZZZZZ").isCutFrom(t, 9, 0, 1, 2, 3, 4, 5, 6, 7, 8)
	alphabetLeaf(26, "Z Z Z Z Z Z Z Z Z").isCutFrom(t, 9, 0, 1, 2, 3, 4, 5, 6, 7, 8)
	alphabetLeaf(234, "ZZZZZZZZZ").isCutFrom(t, 1, 0, 0, 0, 0, 0, 0, 0, 0, 0)
	alphabetLeaf(233, "ZZZZZZZZZ").isCutFrom(t, 2, 0, 0, 0, 0, 0, 0, 0, 0, 1)
	alphabetLeaf(9, "AAAAAAAAA").isCutFrom(t, 1, 0, 0, 0, 0, 0, 0, 0, 0, 0)
	alphabetLeaf(45, "ABCDEFGHI").isCutFrom(t, 1, 0, 0, 0, 0, 0, 0, 0, 0, 0)
	alphabetLeaf(15, "ABCDEFGHI").hasFewest(t, 3, 0, 0, 0, 0, 0, 1, 2, 2, 1)
	for _, text := range []string{"AAAAAAAAAA", "A A A A A A A A A A", "ZZZZZZZZZZ", strings.Repeat("A", impl.MaxText)} {
		for _, wide := range []int16{26, 400} {
			l := alphabetLeaf(wide, text)
			sheets, n, code := impl.FewestSheets(l.face, l.sheet, l.text)
			isCode(t, "FewestSheets"+l.name(), code, impl.ErrLimit, sheets, n)
		}
	}
	// The others take any text: this one needs all numbers that there are.
	full := strings.Repeat("Z", impl.MaxText)
	alphabetLeaf(51, full).hasNext(t, 60, numbersBelow(60)...)
	alphabetLeaf(51, full).hasFirst(t, 60, numbersBelow(60)...)
	alphabetLeaf(51, full).isRight(t, numbersBelow(60), slices.Repeat([]int64{25}, 60)...)
	alphabetLeaf(60, strings.Repeat("A", 60)).hasNext(t, 1, make([]int64, 60)...)
	alphabetLeaf(60, strings.Repeat("A", 60)).hasFirst(t, 1, make([]int64, 60)...)
}

func TestP12PiecesThatAreWiderThanASheet(t *testing.T) {
	// Just as wide, and 1 too wide.
	alphabetLeaf(26, "Z").isCutFrom(t, 1, 0)
	alphabetLeaf(25, "Z").isNoLeaf(t, impl.ErrNotFound, impl.ErrNotFound)
	alphabetLeaf(1, "A").isCutFrom(t, 1, 0)
	alphabetLeaf(1, "AA").isCutFrom(t, 2, 0, 1)
	alphabetLeaf(1, "B").isNoLeaf(t, impl.ErrNotFound, impl.ErrNotFound)
	for _, text := range []string{"ZAA", "AZA", "AAZ", "A A Z", "AAAAAAAAZ", "ZZZZZZZZZ"} {
		alphabetLeaf(26, text).hasPieces(t, (26*int64(strings.Count(text, "Z"))+int64(strings.Count(text, "A"))+25)/26, alphabetPieces(text)...)
		alphabetLeaf(25, text).isNoLeaf(t, impl.ErrNotFound, impl.ErrNotFound)
	}
	for over := range int8(impl.MaxOver + 1) {
		wide := 10 + 2*int16(over)
		leaf{plainFace(), impl.Sheet{Wide: wide, Over: over}, "AVE"}.isCutFrom(t, 3, 0, 1, 2)
		leaf{plainFace(), impl.Sheet{Wide: 2*wide - 1, Over: over}, "AVE"}.isCutFrom(t, 3, 0, 1, 2)
		leaf{plainFace(), impl.Sheet{Wide: 2 * wide, Over: over}, "AVE"}.isCutFrom(t, 2, 0, 0, 1)
		leaf{plainFace(), impl.Sheet{Wide: wide - 1, Over: over}, "AVE"}.isNoLeaf(t, impl.ErrNotFound, impl.ErrNotFound)
		leaf{plainFace(), impl.Sheet{Wide: wide - 1, Over: over}, ""}.isCutFrom(t, 0)
	}
	// Too many letters, and one is too wide.
	alphabetLeaf(25, "ZZZZZZZZZZ").isNoLeaf(t, impl.ErrNotFound, impl.ErrLimit)
	alphabetLeaf(25, "AAAAAAAAAZ").isNoLeaf(t, impl.ErrNotFound, impl.ErrLimit)
	alphabetLeaf(25, strings.Repeat("A ", 29)+"Z").isNoLeaf(t, impl.ErrNotFound, impl.ErrLimit)
}

func alphabetPieces(text string) []int64 {
	var pieces []int64
	for _, b := range []byte(strings.ReplaceAll(text, " ", "")) {
		pieces = append(pieces, int64(b-'A')+1)
	}
	return pieces
}

func TestP12NumbersThatAreRight(t *testing.T) {
	l := exampleLeaf("AVE")
	l.isRight(t, []int64{0, 0, 1}, 1, 13)
	l.isRight(t, []int64{0, 1, 0}, 1, 13)
	l.isRight(t, []int64{1, 0, 0}, 1, 13)
	l.isRight(t, []int64{1, 1, 0}, 13, 1)
	l.isRight(t, []int64{0, 1, 2}, 13, 13, 13)
	l.isRight(t, []int64{2, 1, 0}, 13, 13, 13)
	exampleLeaf("A V E").isRight(t, []int64{0, 0, 1}, 1, 13)
	// Some numbers are left out: no letter lies on these sheets.
	l.isRight(t, []int64{1, 1, 2}, 25, 1, 13)
	l.isRight(t, []int64{0, 0, 3}, 1, 25, 25, 13)
	l.isRight(t, []int64{3, 0, 3}, 13, 25, 25, 1)
	l.isRight(t, []int64{5, 3, 5}, 25, 25, 25, 13, 25, 1)
	last := slices.Repeat([]int64{25}, 60)
	last[59] = 13
	exampleLeaf("A").isRight(t, []int64{59}, last...)
	last[59], last[0] = 1, 13
	l.isRight(t, []int64{59, 59, 0}, last...)
	l.isRight(t, []int64{59, 0, 59}, last...)
	last[58], last[59], last[0] = 13, 1, 25
	l.isRight(t, []int64{59, 58, 59}, last...)
	exampleLeaf("A").isRight(t, []int64{58}, append(slices.Repeat([]int64{25}, 58), 13)...)
	// No letters.
	exampleLeaf("").isRight(t, nil)
	exampleLeaf("").isRight(t, []int64{})
	// Pieces with one number that fill the sheet just.
	alphabetLeaf(30, "TJ").isRight(t, []int64{0, 0}, 0)
	alphabetLeaf(30, "TATJ").isRight(t, []int64{1, 0, 0, 1}, 9, 0)
	alphabetLeaf(26, "Z").isRight(t, []int64{0}, 0)
	alphabetLeaf(26, "Z").isRight(t, []int64{2}, 26, 26, 0)
	alphabetLeaf(60, strings.Repeat("A", 60)).isRight(t, make([]int64, 60), 0)
	alphabetLeaf(60, strings.Repeat("A", 60)).isRight(t, slices.Repeat([]int64{1}, 60), 60, 0)
	alphabetLeaf(30, "ABC").isRight(t, []int64{7, 7, 2}, 30, 30, 27, 30, 30, 30, 30, 27)
}

func TestP12NumbersThatAreNotRight(t *testing.T) {
	l := exampleLeaf("AVE")
	// Too few, or too many.
	l.isNotRight(t)
	l.isNotRight(t, 0)
	l.isNotRight(t, 0, 1)
	l.isNotRight(t, 0, 0, 1, 1)
	l.isNotRight(t, 0, 1, 2, 3)
	exampleLeaf("").isNotRight(t, 0)
	exampleLeaf("A").isNotRight(t)
	exampleLeaf("A V E").isNotRight(t, 0, 1, 2, 3, 4) // blanks are no letters
	exampleLeaf("A V E").isNotRight(t, 0, 1, 2, 3)
	// Less than 0, or too great.
	for _, n := range []int64{-1, -2, -60, 60, 61, 256, 1 << 32, -(1 << 32), math.MaxInt64, math.MinInt64, 1<<32 + 1, 1 << 63 >> 1} {
		l.isNotRight(t, n, 0, 1)
		l.isNotRight(t, 0, n, 1)
		l.isNotRight(t, 0, 1, n)
		l.isNotRight(t, n, n+1, n)
		exampleLeaf("A").isNotRight(t, n)
	}
	// Together wider than the sheet.
	l.isNotRight(t, 0, 0, 0)
	l.isNotRight(t, 1, 1, 1)
	l.isNotRight(t, 59, 59, 59)
	alphabetLeaf(30, "TK").isNotRight(t, 0, 0)
	alphabetLeaf(29, "TJ").isNotRight(t, 0, 0)
	alphabetLeaf(30, "TKA").isNotRight(t, 0, 0, 1)
	alphabetLeaf(30, "TAK").isNotRight(t, 1, 0, 1)
	alphabetLeaf(30, "TATJ").isNotRight(t, 0, 0, 1, 0)
	alphabetLeaf(59, strings.Repeat("A", 60)).isNotRight(t, make([]int64, 60)...)
	alphabetLeaf(60, strings.Repeat("A", 59)+"B").isNotRight(t, make([]int64, 60)...)
	// A piece alone.
	alphabetLeaf(25, "Z").isNotRight(t, 0)
	alphabetLeaf(25, "AZ").isNotRight(t, 0, 1)
	alphabetLeaf(25, "ZA").isNotRight(t, 7, 1)
	exampleLeaf("AVE").isNotRight(t, numbersBelow(1000)...)
}

func TestP12EachPieceIsOfItsOwnLetter(t *testing.T) {
	// The widest ones together, the second and the last one, are 30 just.
	l := alphabetLeaf(30, "ATBJ")
	l.isRight(t, []int64{0, 1, 0, 1}, 27, 0)
	l.isNotRight(t, 1, 1, 0, 1)
	l.isNotRight(t, 0, 1, 1, 1)
	l.isRight(t, []int64{0, 1, 2, 1}, 29, 0, 28)
	l.isRight(t, []int64{1, 0, 1, 1}, 10, 17)
}

// hasStock looks at a book that never is short.
func hasStock(t *testing.T, start int64, book []int64, want ...int64) {
	t.Helper()
	stock, code := impl.StockAfter(start, book)
	is(t, fmt.Sprint("StockAfter ", start, book), []any{stock, code}, []any{want, 0})
	first, code := impl.FirstShort(start, book)
	isCode(t, fmt.Sprint("FirstShort ", start, book), code, impl.ErrNotFound, first)
}

func isShort(t *testing.T, start int64, book []int64, want int64) {
	t.Helper()
	stock, code := impl.StockAfter(start, book)
	isCode(t, fmt.Sprint("StockAfter ", start, book), code, impl.ErrState, stock)
	first, code := impl.FirstShort(start, book)
	is(t, fmt.Sprint("FirstShort ", start, book), []any{first, code}, []any{want, 0})
}

func needs(t *testing.T, book []int64, want int64) {
	t.Helper()
	start, code := impl.LeastStart(book)
	is(t, fmt.Sprint("LeastStart ", book), []any{start, code}, []any{want, 0})
}

func TestP12Books(t *testing.T) {
	example := []int64{3, -5, 1}
	needs(t, example, 2)
	hasStock(t, 2, example, 5, 0, 1)
	hasStock(t, 3, example, 6, 1, 2)
	isShort(t, 1, example, 1)
	isShort(t, 0, example, 1)
	// No lines.
	needs(t, nil, 0)
	needs(t, []int64{}, 0)
	hasStock(t, 0, nil)
	hasStock(t, impl.MaxBudget, nil)
	// Books that end just at 0, and at -1.
	needs(t, []int64{-1}, 1)
	hasStock(t, 1, []int64{-1}, 0)
	isShort(t, 0, []int64{-1}, 0)
	hasStock(t, 0, []int64{2, -2}, 2, 0)
	isShort(t, 0, []int64{2, -3}, 1)
	needs(t, []int64{2, -2}, 0)
	needs(t, []int64{2, -3}, 1)
	hasStock(t, 6, []int64{-1, -2, -3}, 5, 3, 0)
	isShort(t, 5, []int64{-1, -2, -3}, 2)
	isShort(t, 2, []int64{-1, -2, -3}, 1)
	isShort(t, 0, []int64{-1, -2, -3}, 0)
	needs(t, []int64{-1, -2, -3}, 6)
	// What is bought behind a line does not help ahead of it.
	isShort(t, 0, []int64{-1, 5}, 0)
	isShort(t, 4, []int64{-5, 5}, 0)
	needs(t, []int64{-1, 5}, 1)
	needs(t, []int64{-5, 9, -4}, 5)
	needs(t, []int64{-5, 3, -4}, 6)
	needs(t, []int64{5, -4, -4, 9, -1}, 3)
	isShort(t, 0, []int64{5, -4, -4, 9, -20}, 2)
	needs(t, []int64{5, 4}, 0)
	// Nothing is bought or used.
	needs(t, []int64{0}, 0)
	hasStock(t, 0, []int64{0, 0}, 0, 0)
	hasStock(t, 1, []int64{0, -1, 0}, 1, 0, 0)
	isShort(t, 0, []int64{0, -1, 0}, 1)
}

func TestP12BooksAtTheirLimits(t *testing.T) {
	used, bought := slices.Repeat([]int64{-impl.MaxPrice}, impl.MaxBook), slices.Repeat([]int64{impl.MaxPrice}, impl.MaxBook)
	var down, up []int64
	for i := range int64(impl.MaxBook) {
		down = append(down, 59000-1000*i)
		up = append(up, impl.MaxBudget+1000+1000*i)
	}
	needs(t, used, 60000)
	hasStock(t, 60000, used, down...)
	isShort(t, 59999, used, 59)
	isShort(t, 58999, used, 58)
	isShort(t, 0, used, 0)
	needs(t, bought, 0)
	hasStock(t, impl.MaxBudget, bought, up...)
	hasStock(t, impl.MaxBudget, []int64{-1000, 1000}, 999000, 1000000)
	hasStock(t, 0, []int64{1000, -1000}, 1000, 0)
	hasStock(t, 0, make([]int64, impl.MaxBook), make([]int64, impl.MaxBook)...)
	needs(t, append(bought[:59:59], -1000), 0)
	needs(t, append(used[:59:59], 1000), 59000)
}

// oddCounts are neither a number of sheets at first, nor one of a book, nor a budget.
func oddCounts() []int64 {
	return []int64{-impl.MaxPrice - 1, math.MinInt64, math.MaxInt64, impl.MaxBudget + 1, 1 << 32, -(1 << 32), 1<<32 + 1}
}

func TestP12BooksWithErrors(t *testing.T) {
	isNone := func(start int64, book []int64, want, wantLeast int64) {
		t.Helper()
		name := fmt.Sprint(" ", start, " with ", len(book))
		stock, code := impl.StockAfter(start, book)
		isCode(t, "StockAfter"+name, code, want, stock)
		first, code := impl.FirstShort(start, book)
		isCode(t, "FirstShort"+name, code, want, first)
		least, code := impl.LeastStart(book)
		isCode(t, "LeastStart"+name, code, wantLeast, least)
	}
	many := slices.Repeat([]int64{-1}, impl.MaxBook+1)
	for _, start := range append(oddCounts(), -1) {
		isNone(start, []int64{3, -5, 1}, impl.ErrRange, impl.OK)
		isNone(start, nil, impl.ErrRange, impl.OK)
		isNone(start, []int64{impl.MaxPrice}, impl.ErrRange, impl.OK)
		isNone(start, many, impl.ErrRange, impl.ErrLimit)
	}
	for _, n := range append(oddCounts(), impl.MaxPrice+1) {
		for _, start := range []int64{0, 1, 5000, impl.MaxBudget, -1, impl.MaxBudget + 1} {
			isNone(start, []int64{n}, impl.ErrRange, impl.ErrRange)
			isNone(start, []int64{n, 3, -5}, impl.ErrRange, impl.ErrRange)
			isNone(start, []int64{3, -5, n}, impl.ErrRange, impl.ErrRange)
			// Too many, of which the first or the last one is out of range.
			isNone(start, append([]int64{n}, many...), impl.ErrRange, impl.ErrRange)
			isNone(start, append(many[:len(many):len(many)], n), impl.ErrRange, impl.ErrRange)
		}
	}
	for _, n := range []int{61, 62, 1000} {
		for _, start := range []int64{0, 60, 61, impl.MaxBudget} {
			isNone(start, slices.Repeat([]int64{-1}, n), impl.ErrLimit, impl.ErrLimit)
			isNone(start, slices.Repeat([]int64{1}, n), impl.ErrLimit, impl.ErrLimit)
			isNone(start, make([]int64, n), impl.ErrLimit, impl.ErrLimit)
		}
	}
}
