package tests

import (
	"fmt"
	"math"
	"slices"
	"strings"
	"testing"

	"loop.example/g01398/impl"
)

// This file has the example of chapter 4, and what the document says of single inputs, one by one.

func exampleList() []string { return []string{"OLD", "GOOD", "THOSE"} }

// twelve are just MaxList words of one letter.
func twelve() []string { return strings.Split("ABCDEFGHIJKL", "") }

func goodLists() [][]string {
	return [][]string{nil, {"A"}, {strings.Repeat("Z", 20)}, {"A", "A", "A"}, exampleList(), {"NO", "ON", "SOS", "NO"}, twelve(), slices.Repeat([]string{strings.Repeat("M", 20)}, impl.MaxList)}
}

// badLists are not valid, each one for another reason.
func badLists() map[string][]string {
	bad := map[string][]string{"too many": append(twelve(), "M"), "far too many": slices.Repeat([]string{"A"}, 1000)}
	for name, word := range map[string]string{
		"empty": "", "too long": strings.Repeat("A", 21), "far too long": strings.Repeat("A", 61), "blank": " ", "blank behind": "A ", "blank ahead": " A", "blank inside": "A B", "small": "a", "worn": "A.B", "before letters": "@", "behind letters": "[", "newline": "A\n", "zero": "\x00", "high": "\xc1", "no ASCII": "Ä", "digit": "7",
	} {
		bad[name] = []string{word}
		bad[name+", last"] = append(twelve()[:11], word)
		bad[name+", first"] = append([]string{word}, exampleList()...)
	}
	return bad
}

func TestP8Lists(t *testing.T) {
	for _, list := range goodLists() {
		is(t, fmt.Sprint("ValidList ", list), impl.ValidList(list), true)
	}
	for name, list := range badLists() {
		is(t, "ValidList, "+name, impl.ValidList(list), false)
	}
	is(t, "limits", []int{impl.MaxList, impl.MaxSlack, impl.MaxPieces}, []int{12, 100, 8})
}

// fill is what is around something missing.
type fill struct {
	face        impl.Face
	left, right string
	wide, slack int64
}

func (f fill) name(list []string) string {
	return fmt.Sprintf(" of %q, %q and %q in %d with %d", f.left, list, f.right, f.wide, f.slack)
}

func (f fill) isFilledBy(t *testing.T, list []string, want ...int64) {
	t.Helper()
	fit, code := impl.FillWord(f.face, f.left, f.right, list, f.wide, f.slack)
	is(t, "FillWord"+f.name(list), []any{fit, code}, []any{want, 0})
}

func (f fill) isFilledByTwo(t *testing.T, list []string, want ...[2]int64) {
	t.Helper()
	fit, code := impl.FillTwo(f.face, f.left, f.right, list, f.wide, f.slack)
	is(t, "FillTwo"+f.name(list), []any{fit, code}, []any{want, 0})
}

func (f fill) isFilledByLetters(t *testing.T, want string) {
	t.Helper()
	fit, code := impl.FillLetter(f.face, f.left, f.right, f.wide, f.slack)
	is(t, "FillLetter"+f.name(nil), []any{fit, code}, []any{want, 0})
}

func (f fill) isBestFilledBy(t *testing.T, list []string, index, by int64) {
	t.Helper()
	best, off, code := impl.BestFill(f.face, f.left, f.right, list, f.wide)
	is(t, "BestFill"+f.name(list), []any{best, off, code}, []any{index, by, 0})
}

func (f fill) isNeverFilled(t *testing.T, list []string) {
	t.Helper()
	f.isFilledBy(t, list)
	f.isFilledByTwo(t, list)
	f.isFilledByLetters(t, "")
	best, off, code := impl.BestFill(f.face, f.left, f.right, list, f.wide)
	isCode(t, "BestFill"+f.name(list), code, impl.ErrNotFound, best, off)
}

// isNoFill looks for a code of all four functions; that of BestFill, which has no slack, may be another one.
func (f fill) isNoFill(t *testing.T, list []string, code, bestCode int64) {
	t.Helper()
	words, got := impl.FillWord(f.face, f.left, f.right, list, f.wide, f.slack)
	isCode(t, "FillWord"+f.name(list), got, code, words)
	pairs, got := impl.FillTwo(f.face, f.left, f.right, list, f.wide, f.slack)
	isCode(t, "FillTwo"+f.name(list), got, code, pairs)
	best, off, got := impl.BestFill(f.face, f.left, f.right, list, f.wide)
	isCode(t, "BestFill"+f.name(list), got, bestCode, best, off)
	if impl.ValidList(list) {
		letters, got := impl.FillLetter(f.face, f.left, f.right, f.wide, f.slack)
		isCode(t, "FillLetter"+f.name(list), got, code, letters)
	}
}

func TestP8FillingExample(t *testing.T) {
	list := exampleList()
	for _, c := range []struct {
		word string
		wide int64
	}{{"OLD", 114}, {"GOOD", 126}} {
		wide, code := impl.LineWide(plainFace(), "IN "+c.word+" DAYS")
		is(t, "LineWide with "+c.word, []any{wide, code}, []any{c.wide, 0})
	}
	example := fill{plainFace(), "IN ", " DAYS", 120, 6}
	example.isFilledBy(t, list, 0, 1)
	example.isBestFilledBy(t, list, 0, 6)
}

func TestP8SlackIsReachedExactly(t *testing.T) {
	// The widths are 114, 126 and 138.
	for _, c := range []struct {
		wide, slack int64
		want        []int64
	}{
		{114, 0, []int64{0}}, {113, 0, nil}, {115, 0, nil}, {113, 1, []int64{0}}, {115, 1, []int64{0}}, {126, 0, []int64{1}}, {138, 0, []int64{2}}, {139, 0, nil},
		{120, 6, []int64{0, 1}}, {120, 5, nil}, {121, 6, []int64{1}}, {119, 6, []int64{0}}, {126, 11, []int64{1}}, {126, 12, []int64{0, 1, 2}}, {132, 6, []int64{1, 2}},
		{14, 100, []int64{0}}, {13, 100, nil}, {38, 100, []int64{0, 1, 2}}, {37, 100, []int64{0, 1}}, {238, 100, []int64{2}}, {239, 100, nil}, {214, 100, []int64{0, 1, 2}}, {215, 100, []int64{1, 2}}, {0, 100, nil}, {impl.MaxWide, 100, nil},
	} {
		fill{plainFace(), "IN ", " DAYS", c.wide, c.slack}.isFilledBy(t, exampleList(), c.want...)
	}
	// Two words: the widths are 74 for two of 3 letters, and 12 more for each letter more.
	two := fill{plainFace(), "", "", 86, 0}
	two.isFilledByTwo(t, exampleList(), [2]int64{0, 1}, [2]int64{1, 0})
	two.slack = 11
	two.isFilledByTwo(t, exampleList(), [2]int64{0, 1}, [2]int64{1, 0})
	two.slack = 12
	two.isFilledByTwo(t, exampleList(), [2]int64{0, 0}, [2]int64{0, 1}, [2]int64{0, 2}, [2]int64{1, 0}, [2]int64{1, 1}, [2]int64{2, 0})
	// A letter: "A" is 1 wide, and "Z" 26.
	letter := fill{unevenFace(), "Z ", " Z", 92 - 26 + 10, 0}
	letter.isFilledByLetters(t, "J")
	letter.slack = 2
	letter.isFilledByLetters(t, "HIJKL")
	letter.slack = 100
	letter.isFilledByLetters(t, "ABCDEFGHIJKLMNOPQRSTUVWXYZ")
	letter.wide, letter.slack = 92-26-3, 5
	letter.isFilledByLetters(t, "AB")
}

func TestP8EmptySides(t *testing.T) {
	list := exampleList()
	fill{plainFace(), "", "", 46, 0}.isFilledBy(t, list, 1)
	fill{plainFace(), "", "", 34, 12}.isFilledBy(t, list, 0, 1)
	fill{plainFace(), "IN ", "", 22 + 6 + 46, 0}.isFilledBy(t, list, 1)
	fill{plainFace(), "", " DAYS", 46 + 6 + 46, 0}.isFilledBy(t, list, 1)
	fill{plainFace(), "", "", 0, 0}.isNeverFilled(t, nil)
	fill{plainFace(), "", "", 40, 0}.isBestFilledBy(t, list, 0, 6)
	fill{plainFace(), "", "", 10, 0}.isFilledByLetters(t, "ABCDEFGHIJKLMNOPQRSTUVWXYZ")
	fill{plainFace(), "", "", 9, 0}.isFilledByLetters(t, "")
	fill{unevenFace(), "", "", 26, 1}.isFilledByLetters(t, "YZ")
	fill{plainFace(), "", "", 74, 0}.isFilledByTwo(t, list, [2]int64{0, 0})
}

func TestP8SidesWithoutBlanksJoinTheWord(t *testing.T) {
	// Without a blank the word gets longer by the letters, and there are pairs at both seams.
	f := exampleFace()
	list := []string{"V", "A", "VA"}
	fill{f, "A", "", 20, 0}.isFilledBy(t, list, 0)
	fill{f, "A", "", 22, 0}.isFilledBy(t, list, 1)
	fill{f, "", "V", 20, 0}.isFilledBy(t, list, 1)
	fill{f, "A", "V", 32, 0}.isFilledBy(t, list, 0, 1)
	fill{f, "A", "V", 42, 0}.isFilledBy(t, list, 2)
	fill{f, "A ", "V", 10 + 6 + 20, 0}.isFilledBy(t, list, 1)
	fill{f, "A", " V", 10 + 6 + 20, 0}.isFilledBy(t, list, 0)
	fill{f, "A ", " V", 10 + 6 + 10 + 6 + 10, 0}.isFilledBy(t, list, 0, 1)
	fill{f, "A", "V", 20 + 6 + 22, 0}.isFilledByTwo(t, []string{"V"}, [2]int64{0, 0})
	fill{f, "A", "V", 32, 0}.isFilledByLetters(t, "AV")
	fill{f, "A", "V", 34, 0}.isFilledByLetters(t, "BCDEFGHIJKLMNOPQRSTUWXYZ")
	fill{f, "A", "V", 33, 0}.isFilledByLetters(t, "")
	fill{f, "A", "V", 33, 1}.isFilledByLetters(t, "ABCDEFGHIJKLMNOPQRSTUVWXYZ")
}

func TestP8BlanksAtEdges(t *testing.T) {
	list := []string{"B"}
	// A blank at the end of left, or at the beginning of right, is that between two words.
	fill{plainFace(), "A ", "C", 38, 0}.isFilledBy(t, list, 0)
	fill{plainFace(), "A", " C", 38, 0}.isFilledBy(t, list, 0)
	fill{plainFace(), "A ", " C", 42, 0}.isFilledBy(t, list, 0)
	fill{plainFace(), "A ", " C", 58, 0}.isFilledByTwo(t, list, [2]int64{0, 0})
	fill{plainFace(), "A ", " C", 42, 0}.isFilledByLetters(t, "ABCDEFGHIJKLMNOPQRSTUVWXYZ")
	fill{plainFace(), "A ", " C", 41, 0}.isBestFilledBy(t, list, 0, 1)
	// What begins or ends with a blank is no valid text, however wide it is.
	for _, sides := range [][2]string{{" ", ""}, {"", " "}, {" ", " "}, {" A", ""}, {"", "C "}, {" A ", " C"}, {"A ", " C "}, {" A", "C "}, {" ", " C"}, {"A ", " "}, {" A B ", " C D "}, {"A", " "}, {" ", "C"}} {
		for wide := int64(0); wide < 300; wide += 50 {
			fill{plainFace(), sides[0], sides[1], wide, impl.MaxSlack}.isNeverFilled(t, append(list, exampleList()...))
		}
	}
}

// badSides are no beginnings or ends of broken lines: two blanks are side by side, or there is something else.
func badSides() []string {
	return []string{
		"  ", "   ", "A  ", "  A", "A  B", "A B  C", " A  B ", "A  B C", strings.Repeat("A ", 60) + " A", "a", "Ab", "A b", "A.", ".", "?", "1", "A-B", "@", "[", "A\n", "\tA", "A\tB", "\x00", "A\x00", "\xc1", "\xff", "\xa0", "Ä", "A\u00a0B", "A\u3000B", "\u0141", " ä",
		strings.Repeat("A", 100) + "a",
	}
}

func TestP8SidesThatAreNone(t *testing.T) {
	for _, side := range badSides() {
		for _, other := range []string{"", "A", "A ", " A", " ", side} {
			fill{plainFace(), side, other, 10, 10}.isNoFill(t, exampleList(), impl.ErrSyntax, impl.ErrSyntax)
			fill{plainFace(), other, side, 10, 10}.isNoFill(t, exampleList(), impl.ErrSyntax, impl.ErrSyntax)
			fill{plainFace(), other, side, impl.MaxWide, impl.MaxSlack}.isNoFill(t, nil, impl.ErrSyntax, impl.ErrSyntax)
		}
	}
}

func TestP8TextsThatWouldBeTooLong(t *testing.T) {
	f := plainFace()
	list := []string{"AA", "A", "AAA", "A"}
	left := strings.Repeat("A", 57)
	// With 60 letters the line is 718 wide.
	fill{f, left, "A", 718, 0}.isFilledBy(t, list, 0)
	fill{f, left, "A", 718, 100}.isFilledBy(t, list, 0, 1, 3)
	fill{f, left, "A", 1000, 0}.isBestFilledBy(t, list, 0, 282)
	fill{f, left, "AA", 1000, 0}.isBestFilledBy(t, list, 1, 282)
	fill{f, left, "AAA", 718, 100}.isNeverFilled(t, list)
	fill{f, left, "AAA ", 718, 100}.isNeverFilled(t, list)
	fill{f, left[:30], left[:29], 718, 0}.isFilledByLetters(t, "ABCDEFGHIJKLMNOPQRSTUVWXYZ")
	fill{f, left[:30], left[:30], 718, 100}.isNeverFilled(t, list)
	// The blank between two words counts, too.
	fill{f, left, "", 718, 100}.isFilledByTwo(t, list, [2]int64{1, 1}, [2]int64{1, 3}, [2]int64{3, 1}, [2]int64{3, 3})
	fill{f, left, "A", 718, 100}.isFilledByTwo(t, list)
	fill{f, left[:20], left[:34], 718, 100}.isFilledByTwo(t, []string{"AAA", "AA"}, [2]int64{0, 1}, [2]int64{1, 0}, [2]int64{1, 1})
	// Sides that are too long are no other error.
	fill{f, strings.Repeat("A", 61), "", 730, 100}.isNeverFilled(t, list)
	fill{f, "", strings.Repeat("A ", 100), 730, 100}.isNeverFilled(t, list)
	fill{f, strings.Repeat("A", 1000), strings.Repeat("A", 1000), impl.MaxWide, 100}.isNeverFilled(t, list)
}

func TestP8SeveralBestWords(t *testing.T) {
	f := plainFace()
	fill{f, "", "", 34, 0}.isBestFilledBy(t, []string{"A", "OLD", "NEW", "OLD"}, 1, 0)
	fill{f, "", "", 33, 0}.isBestFilledBy(t, []string{"NEW", "OLD"}, 0, 1)
	fill{f, "", "", 35, 0}.isBestFilledBy(t, []string{"A", "NEW", "OLD"}, 1, 1)
	// One is as much wider as the other one is narrower.
	fill{f, "", "", 28, 0}.isBestFilledBy(t, []string{"OLD", "IN"}, 0, 6)
	fill{f, "", "", 28, 0}.isBestFilledBy(t, []string{"IN", "OLD"}, 0, 6)
	fill{f, "", "", 29, 0}.isBestFilledBy(t, []string{"IN", "OLD"}, 1, 5)
	fill{f, "", "", 27, 0}.isBestFilledBy(t, []string{"OLD", "IN"}, 1, 5)
	fill{f, "", "", 0, 0}.isBestFilledBy(t, []string{"OLD", "I", "IN", "O"}, 1, 10)
	fill{f, "", "", impl.MaxWide, 0}.isBestFilledBy(t, []string{"I", "OLD", "IN", "NEW"}, 1, 3966)
	// The first word would make too long a text.
	left := strings.Repeat("A", 58)
	fill{f, left, "", 1000, 0}.isBestFilledBy(t, []string{"OLD", "I", "IN", "NO"}, 2, 282)
	best, by, code := impl.BestFill(f, "IN ", " DAYS", nil, 120)
	isCode(t, "BestFill of none", code, impl.ErrNotFound, best, by)
}

func TestP8WordsAsManyAndAsLongAsCanBe(t *testing.T) {
	f := plainFace()
	fill{f, "", "", 10, 0}.isFilledBy(t, twelve(), 0, 1, 2, 3, 4, 5, 6, 7, 8, 9, 10, 11)
	var all [][2]int64
	for i := range int64(12) {
		for j := range int64(12) {
			all = append(all, [2]int64{i, j})
		}
	}
	fill{f, "", "", 26, 0}.isFilledByTwo(t, twelve(), all...)
	long := strings.Repeat("N", 20)
	fill{f, "", "", 238, 0}.isFilledBy(t, []string{long, long[1:]}, 0)
	fill{f, "", " A", 238 + 6 + 238 + 16, 0}.isFilledByTwo(t, []string{long, "A"}, [2]int64{0, 0})
	fill{f, "A", "", 238, 0}.isNoFill(t, []string{long + "N"}, impl.ErrInvalid, impl.ErrInvalid)
	// Equal words are told each.
	fill{f, "", "", 34, 0}.isFilledBy(t, []string{"OLD", "A", "OLD"}, 0, 2)
	fill{f, "", "", 34 + 6 + 10, 0}.isFilledByTwo(t, []string{"OLD", "A", "OLD"}, [2]int64{0, 1}, [2]int64{1, 0}, [2]int64{1, 2}, [2]int64{2, 1})
	fill{f, "", "", 34, 100}.isFilledBy(t, nil)
	fill{f, "", "", 34, 100}.isFilledByTwo(t, nil)
}

func TestP8OrderOfFillingErrors(t *testing.T) {
	list, bad := exampleList(), []string{"OLD", "old"}
	for _, n := range []int64{-1, math.MinInt64, impl.MaxWide + 1, math.MaxInt64, 1 << 32, -(1 << 32)} {
		fill{plainFace(), "a", "  ", n, 0}.isNoFill(t, list, impl.ErrRange, impl.ErrRange)
		fill{plainFace(), "", "", n, 0}.isNoFill(t, list, impl.ErrRange, impl.ErrRange)
		fill{plainFace(), "", "", n, 0}.isNoFill(t, nil, impl.ErrRange, impl.ErrRange)
		fill{plainFace(), "", "", n, n}.isNoFill(t, bad, impl.ErrInvalid, impl.ErrInvalid)
		fill{impl.Face{}, "", "", n, n}.isNoFill(t, list, impl.ErrInvalid, impl.ErrInvalid)
	}
	for _, n := range []int64{-1, math.MinInt64, impl.MaxSlack + 1, math.MaxInt64, 1 << 32, -(1 << 32)} {
		fill{plainFace(), "a", "  ", 10, n}.isNoFill(t, list, impl.ErrRange, impl.ErrSyntax)
		fill{plainFace(), "", "a", 10, n}.isNoFill(t, list, impl.ErrRange, impl.ErrSyntax)
		fill{plainFace(), "", "", 10, n}.isNoFill(t, nil, impl.ErrRange, impl.ErrNotFound)
		fill{plainFace(), "", "", 10, n}.isNoFill(t, bad, impl.ErrInvalid, impl.ErrInvalid)
	}
	fill{plainFace(), "a", "", 10, 0}.isNoFill(t, bad, impl.ErrInvalid, impl.ErrInvalid)
	fill{impl.Face{}, "a", "", 10, 0}.isNoFill(t, list, impl.ErrInvalid, impl.ErrInvalid)
	// The numbers at their ends are no error.
	fill{plainFace(), "", "", 0, 0}.isFilledBy(t, list)
	fill{plainFace(), "", "", 0, impl.MaxSlack}.isFilledBy(t, list, 0, 1, 2)
	fill{plainFace(), "", "", impl.MaxWide, impl.MaxSlack}.isFilledByLetters(t, "")
}

func isMatched(t *testing.T, worn string, list []string, want ...int64) {
	t.Helper()
	match, code := impl.MatchWorn(worn, list)
	is(t, fmt.Sprintf("MatchWorn %q of %q", worn, list), []any{match, code}, []any{want, 0})
}

func TestP8WornWords(t *testing.T) {
	list := []string{"OLD", "GOOD", "GOLD", "OLD", "A"}
	isMatched(t, "G..D", exampleList(), 1)
	isMatched(t, "G..D", list, 1, 2)
	isMatched(t, "GO.D", list, 1, 2)
	isMatched(t, "..LD", list, 2)
	isMatched(t, "OLD", list, 0, 3)
	isMatched(t, "..D", list, 0, 3)
	isMatched(t, "GOAD", list)
	isMatched(t, "G..", list)
	isMatched(t, "..", list)
	// All letters gone, so that only the number of letters counts.
	isMatched(t, "...", list, 0, 3)
	isMatched(t, "....", list, 1, 2)
	isMatched(t, ".", list, 4)
	isMatched(t, ".", twelve(), 0, 1, 2, 3, 4, 5, 6, 7, 8, 9, 10, 11)
	isMatched(t, "", list)
	isMatched(t, "", nil)
	isMatched(t, "...", nil)
	long := strings.Repeat("N", 20)
	isMatched(t, long, []string{long, long[1:]}, 0)
	isMatched(t, strings.Repeat(".", 20), []string{long, long[1:]}, 0)
	isMatched(t, strings.Repeat(".", 19), []string{long, long[1:]}, 1)
}

// badWorn are no worn words.
func badWorn() []string {
	return []string{
		strings.Repeat(".", 21), strings.Repeat("A", 21), strings.Repeat("A.", 50), " ", "A B", "A.B ", " .", "a", ".a", "a.", "?", "A?", "-", "/", "@", "[", "1", "A\n", "\x00", "\xc1", "\xae", "Ä", "…", "\u0141", "\u012e",
	}
}

func TestP8WordsThatAreNotWorn(t *testing.T) {
	for _, worn := range badWorn() {
		match, code := impl.MatchWorn(worn, exampleList())
		isCode(t, fmt.Sprintf("MatchWorn %q", worn), code, impl.ErrSyntax, match)
		match, code = impl.MatchWorn(worn, nil)
		isCode(t, fmt.Sprintf("MatchWorn %q of none", worn), code, impl.ErrSyntax, match)
		match, code = impl.MatchWorn(worn, []string{"old"})
		isCode(t, fmt.Sprintf("MatchWorn %q of no list", worn), code, impl.ErrInvalid, match)
		for _, other := range append(badWorn(), "", ".", "A", "...", "A.", "....................") {
			both, code := impl.Agree(worn, other)
			isCode(t, fmt.Sprintf("Agree %q and %q", worn, other), code, impl.ErrSyntax, both)
			both, code = impl.Agree(other, worn)
			isCode(t, fmt.Sprintf("Agree %q and %q", other, worn), code, impl.ErrSyntax, both)
		}
	}
}

func TestP8LettersThatAreGone(t *testing.T) {
	long := strings.Repeat("N", 20)
	for _, c := range []struct {
		text string
		gone []int64
		want string
	}{
		{"GOOD", []int64{1, 2}, "G..D"}, {"GOOD", nil, "GOOD"}, {"GOOD", []int64{0, 1, 2, 3}, "...."}, {"GOOD", []int64{3, 0}, ".OO."}, {"GOOD", []int64{2, 2, 2}, "GO.D"}, {"GOOD", []int64{3, 1, 3, 1}, "G.O."}, {"A", []int64{0}, "."}, {"A", nil, "A"},
		{long, []int64{19}, long[1:] + "."}, {long, []int64{0}, "." + long[1:]}, {"OLD", slices.Repeat([]int64{0, 2}, 1000), ".L."},
	} {
		worn, code := impl.WornOf(c.text, c.gone)
		is(t, fmt.Sprintf("WornOf %q at %d", c.text, c.gone), []any{worn, code}, []any{c.want, 0})
	}
	for _, place := range []int64{-1, 4, 5, 20, 255, 256, 1 << 32, math.MaxInt64, math.MinInt64} {
		for _, gone := range [][]int64{{place}, {0, place}, {place, 0}, {1, 1, place, 1}} {
			worn, code := impl.WornOf("GOOD", gone)
			isCode(t, fmt.Sprintf("WornOf at %d", gone), code, impl.ErrRange, worn)
			worn, code = impl.WornOf("GOOD DAYS", gone)
			isCode(t, fmt.Sprintf("WornOf no word at %d", gone), code, impl.ErrInvalid, worn)
		}
	}
	for _, text := range append(badTexts(), "", "A B", "G..D", ".", long+"N") {
		for _, gone := range [][]int64{nil, {0}, {-1}, {100}} {
			worn, code := impl.WornOf(text, gone)
			isCode(t, fmt.Sprintf("WornOf %q at %d", text, gone), code, impl.ErrInvalid, worn)
		}
	}
}

func TestP8WornWordsThatAgree(t *testing.T) {
	const differ = "-" // no worn word
	long := strings.Repeat(".A", 10)
	for _, c := range []struct{ a, b, want string }{
		{"G..D", "GO..", "GO.D"}, {"G..D", ".OO.", "GOOD"}, {"G..D", "....", "G..D"}, {"GOOD", "....", "GOOD"}, {"....", "....", "...."}, {"GOOD", "GOOD", "GOOD"}, {"GOOD", "G..D", "GOOD"}, {"", "", ""}, {".", "A", "A"}, {"A", "A", "A"},
		{long, strings.Repeat("B.", 10), strings.Repeat("BA", 10)},
		{"GOOD", "GOLD", differ}, {"G...", "A...", differ}, {"...G", "...A", differ}, {"A", "B", differ}, {"G..D", ".O.S", differ},
		{"G..D", "G..D.", differ}, {"G..D", "G..", differ}, {"", ".", differ}, {"...", "....", differ}, {"A", "", differ}, {"AB", "A", differ}, {long, long[1:], differ},
	} {
		for _, words := range [][2]string{{c.a, c.b}, {c.b, c.a}} {
			both, code := impl.Agree(words[0], words[1])
			name := fmt.Sprintf("Agree %q and %q", words[0], words[1])
			if c.want == differ {
				isCode(t, name, code, impl.ErrState, both)
				continue
			}
			is(t, name, []any{both, code}, []any{c.want, 0})
		}
	}
}

func isTurned(t *testing.T, text, want string) {
	t.Helper()
	turned, code := impl.TurnText(text)
	is(t, "TurnText "+text, []any{turned, code}, []any{want, 0})
	again, code := impl.TurnText(turned)
	is(t, "TurnText again "+text, []any{again, code}, []any{text, 0})
	is(t, "CanTurn "+text, impl.CanTurn(text), true)
}

func TestP8TurnedTexts(t *testing.T) {
	isTurned(t, "SWIMS", "SWIMS")
	isTurned(t, "MOW", "MOW")
	isTurned(t, "", "")
	isTurned(t, "HINOSXZMW", "MWZXSONIH")
	for _, c := range []string{"HH", "II", "NN", "OO", "SS", "XX", "ZZ", "MW", "WM"} {
		isTurned(t, c[:1], c[1:])
	}
	isTurned(t, "NO", "ON")
	isTurned(t, "NO SWIM", "WIMS ON")
	isTurned(t, "I M W HO", "OH M W I")
	isTurned(t, strings.Repeat("M", impl.MaxText), strings.Repeat("W", impl.MaxText))
	isTurned(t, strings.Repeat("I ", 29)+"MX", "XW"+strings.Repeat(" I", 29))
}

func TestP8TextsThatCannotBeTurned(t *testing.T) {
	for _, l := range "ABCDEFGJKLPQRTUVY" {
		for _, text := range []string{string(l), "NO" + string(l), string(l) + "ON", "NO " + string(l) + " ON", strings.Repeat("O", 59) + string(l)} {
			turned, code := impl.TurnText(text)
			isCode(t, "TurnText "+text, code, impl.ErrState, turned)
			is(t, "CanTurn "+text, impl.CanTurn(text), false)
		}
	}
	for _, text := range append(badTexts(), " NO", "NO ", "N  O", "no", "NO\n", strings.Repeat("O", 61), " ", "O\xcf", "\u014f") {
		turned, code := impl.TurnText(text)
		isCode(t, fmt.Sprintf("TurnText %q", text), code, impl.ErrInvalid, turned)
		is(t, fmt.Sprintf("CanTurn %q", text), impl.CanTurn(text), false)
	}
}

func TestP8TurnedWords(t *testing.T) {
	for _, c := range []struct {
		list []string
		want [][2]int64
	}{
		{nil, nil},
		{[]string{"A"}, nil},
		{[]string{"NO", "ON", "SOS"}, [][2]int64{{0, 1}, {2, 2}}},
		{[]string{"ON", "SOS", "NO"}, [][2]int64{{0, 2}, {1, 1}}},
		{[]string{"NO", "NO"}, nil},
		{[]string{"NO", "ON", "NO", "ON"}, [][2]int64{{0, 1}, {0, 3}, {1, 2}, {2, 3}}},
		{[]string{"SWIMS", "SWIMS"}, [][2]int64{{0, 0}, {0, 1}, {1, 1}}},
		{[]string{"A", "A", "O", "OLD", "DLO"}, [][2]int64{{2, 2}}},
		{[]string{"M", "W"}, [][2]int64{{0, 1}}},
		{[]string{"MM", "WW", "MW", "WM"}, [][2]int64{{0, 1}, {2, 2}, {3, 3}}},
		{[]string{"HIM", "WIH", "WI", "IW", "IM"}, [][2]int64{{0, 1}, {2, 4}}},
		{[]string{strings.Repeat("W", 20), strings.Repeat("M", 20), strings.Repeat("M", 19)}, [][2]int64{{0, 1}}},
		{slices.Repeat([]string{"I"}, 3), [][2]int64{{0, 0}, {0, 1}, {0, 2}, {1, 1}, {1, 2}, {2, 2}}},
	} {
		pairs, code := impl.TurnedWords(c.list)
		is(t, fmt.Sprint("TurnedWords ", c.list), []any{pairs, code}, []any{c.want, 0})
	}
	pairs, code := impl.TurnedWords(slices.Repeat([]string{"O"}, impl.MaxList))
	is(t, "TurnedWords of just MaxList", []any{len(pairs), code}, []any{78, 0})
}

func isCutAgain(t *testing.T, old, wanted string, want int64) {
	t.Helper()
	cut, code := impl.CutAgain(old, wanted)
	is(t, fmt.Sprintf("CutAgain %q for %q", old, wanted), []any{cut, code}, []any{want, 0})
}

func TestP8LettersThatAreKept(t *testing.T) {
	isCutAgain(t, "HERE LIES", "HE LIED", 1)
	isCutAgain(t, "HE LIED", "HERE LIES", 3)
	isCutAgain(t, "ADA", "HE LIED", 5)
	isCutAgain(t, "", "", 0)
	isCutAgain(t, "A", "", 0)
	isCutAgain(t, "", "A B", 2)
	isCutAgain(t, "A", "A", 0)
	isCutAgain(t, "A", "B", 1)
	// Blanks count for nothing, wherever they are.
	isCutAgain(t, "AB CD", "A BCD", 0)
	isCutAgain(t, "A B C D", "ABCD", 0)
	isCutAgain(t, "ABCD", "A B C D", 0)
	isCutAgain(t, "AB CD", "EF GH", 4)
	// Letters are kept in their order, each one once.
	isCutAgain(t, "AB", "BA", 1)
	isCutAgain(t, "A", "AA", 1)
	isCutAgain(t, "AA", "A", 0)
	isCutAgain(t, "ABC", "CBA", 2)
	isCutAgain(t, "XAXBXCX", "ABC", 0)
	isCutAgain(t, "ABC", "XAXBXCX", 4)
	isCutAgain(t, "BCA", "ABC", 1)
	isCutAgain(t, "ABCBDAB", "BDCABA", 2)
	// The first letter that could be kept is not always one of the most.
	isCutAgain(t, "CABX", "ABXC", 1)
	isCutAgain(t, "ABXC", "CABX", 1)
	full := strings.Repeat("AB", 30)
	isCutAgain(t, full, full, 0)
	isCutAgain(t, full, strings.Repeat("BA", 30), 1)
	isCutAgain(t, strings.Repeat("C", impl.MaxText), full, 60)
	isCutAgain(t, strings.Repeat("A", impl.MaxText), full, 30)
	for _, text := range badTexts() {
		for _, other := range []string{"", "A", text} {
			cut, code := impl.CutAgain(text, other)
			isCode(t, fmt.Sprintf("CutAgain %q for %q", text, other), code, impl.ErrInvalid, cut)
			cut, code = impl.CutAgain(other, text)
			isCode(t, fmt.Sprintf("CutAgain %q for %q", other, text), code, impl.ErrInvalid, cut)
		}
	}
}

func TestP8BestStones(t *testing.T) {
	twelve := slices.Repeat([]string{"X"}, impl.MaxList)
	for _, c := range []struct {
		olds         []string
		wanted       string
		index, least int64
	}{
		{[]string{"ADA", "HERE LIES"}, "HE LIED", 1, 1},
		{[]string{"HERE LIES", "ADA", "HE LIES"}, "HE LIED", 0, 1},
		{[]string{"HELIED", "HE LIED"}, "HE LIED", 0, 0},
		{[]string{"A", "B", "AB", "A B"}, "AB", 2, 0},
		{[]string{""}, "", 0, 0},
		{[]string{"", "A"}, "", 0, 0},
		{[]string{"", "B", "A"}, "A", 2, 0},
		{[]string{"", ""}, "A", 0, 1},
		{twelve, "ABC", 0, 3},
		{append(twelve[:11:11], "A"), "ABC", 11, 2},
	} {
		index, cut, code := impl.BestStone(c.olds, c.wanted)
		is(t, fmt.Sprintf("BestStone %q for %q", c.olds, c.wanted), []any{index, cut, code}, []any{c.index, c.least, 0})
	}
	index, cut, code := impl.BestStone(nil, "A")
	isCode(t, "BestStone of none", code, impl.ErrNotFound, index, cut)
	for _, olds := range [][]string{append(twelve, "A"), slices.Repeat([]string{""}, 1000)} {
		index, cut, code = impl.BestStone(olds, "A")
		isCode(t, "BestStone of too many", code, impl.ErrLimit, index, cut)
		index, cut, code = impl.BestStone(olds, "a")
		isCode(t, "BestStone of too many, for no text", code, impl.ErrInvalid, index, cut)
		index, cut, code = impl.BestStone(append(olds, "a"), "A")
		isCode(t, "BestStone of too many, not all of them texts", code, impl.ErrInvalid, index, cut)
	}
	for _, text := range badTexts() {
		for _, olds := range [][]string{{text}, {"A", text}, {text, "A"}, append(twelve[:11:11], text)} {
			index, cut, code = impl.BestStone(olds, "A")
			isCode(t, fmt.Sprintf("BestStone %q", olds), code, impl.ErrInvalid, index, cut)
		}
		for _, olds := range [][]string{nil, {"A"}, {text}} {
			index, cut, code = impl.BestStone(olds, text)
			isCode(t, fmt.Sprintf("BestStone %q for %q", olds, text), code, impl.ErrInvalid, index, cut)
		}
	}
}
