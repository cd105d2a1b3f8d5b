package tests

import (
	"fmt"
	"math"
	"slices"
	"strconv"
	"strings"
	"testing"

	"loop.example/g01398/impl"
)

// This file has the example of chapter 3, and what the document says of single inputs, one by one.

// systemOf makes a system, valid or not, of a text: "X10 I1;IX".
func systemOf(text string) impl.System {
	var s impl.System
	signs, minus, _ := strings.Cut(text, ";")
	for _, sign := range strings.Fields(signs) {
		value, err := strconv.ParseInt(sign[1:], 10, 16)
		if err != nil {
			panic(err)
		}
		s.Signs = append(s.Signs, impl.Sign{Letter: sign[0], Value: int16(value)})
	}
	for _, pair := range strings.Fields(minus) {
		s.Minus = append(s.Minus, [2]uint8{pair[0], pair[1]})
	}
	return s
}

const oldText = "M1000 D500 C100 L50 X10 V5 I1;CD CM IV IX XC XL"

// Systems of which something is at its limit, or that show something about minus pairs.
const (
	oneSign = "I1;"
	// eightFull has MaxSigns signs, MaxMinus minus pairs, and a sign with MaxValue.
	eightFull = "A5000 B4000 C3000 D2000 E1000 F500 G250 H1;BA CA CB DB DC EC ED HG"
	// In takenLetters "X" (5) with "YZ" (2) behind it would be divided as "XY" (4) and "Z" (11).
	takenLetters = "Z11 Y9 X5 I1;XY YZ"
	// All minus pairs of sevens are worth 7, and nothing else is less than 1000, but "I".
	sevens = "A1042 B1035 C1028 D1021 E1014 F1007 G1000 I1;BA CB DC ED FE GF"
	// In equalParts 10 is "J", "JT", "TU" and "UV", 20 is "T" and "TV", and 30 is "U" and "JV".
	equalParts = "V40 U30 T20 J10 I1;JT JV TU TV UV"
)

// Worn numbers with just MaxReadings readings, and with one more.
const (
	fullSystem, fullWorn = "S57 X53 F51 H32 O20 B8 A3 W1;AB AH AO AS AX BF BH FS", "???A?"
	overSystem, overWorn = "H58 P49 D48 I35 B25 F13 T6 V1;BD BH BI BP DP FB FD FH", "??B??"
)

func goodSystems() []string {
	return []string{
		oldText, "M1000 D500 C100 L50 X10 V5 I1;", oneSign, "Z1;", "A1;", "B5000 A1;", "B5000 A1;AB", "B2 A1;AB", eightFull, "A8 B7 C6 D5 E4 F3 G2 H1;", takenLetters, sevens, equalParts, fullSystem, overSystem,
		"C100 X10 I1;IC IX XC",
	}
}

// badSystems are not valid, each one for another reason.
func badSystems() map[string]impl.System {
	bad := map[string]impl.System{"zero": {}, "minus only": {Minus: [][2]uint8{{'I', 'X'}}}, "letter 0": {Signs: []impl.Sign{{Value: 1}}}}
	for name, text := range map[string]string{
		"too many signs":               "A5000 B4000 C3000 D2000 E1000 F500 G250 H125 I1;",
		"last value 2":                 "X10 I2;",
		"last value 0":                 "X10 I0;",
		"last value less than 0":       "X10 I-1;",
		"only value 2":                 "I2;",
		"value 0 ahead":                "X0 I1;",
		"value too great":              "X5001 I1;",
		"value far too great":          "X32767 I1;",
		"value far too small":          "X-32768 I1;",
		"one value twice":              "C100 X100 I1;",
		"value 1 twice":                "X1 I1;",
		"rising":                       "X10 C100 I1;",
		"falling below 1":              "C100 X-5 I1;",
		"one letter twice":             "C100 X10 C1;",
		"neighbours with one letter":   "C100 X10 X5 I1;",
		"letter before letters":        "C100 @1;",
		"letter behind letters":        "[100 I1;",
		"small letter":                 "c100 I1;",
		"digit":                        "1100 I1;",
		"worn letter":                  "?100 I1;",
		"minus of falling values":      "X10 I1;XI",
		"minus of equal letters":       "X10 I1;II",
		"minus with no sign ahead":     "X10 I1;AX",
		"minus with no sign behind":    "X10 I1;IA",
		"minus with small letter":      "X10 I1;iX",
		"minus with a letter worn":     "X10 I1;I?",
		"minus without signs":          "X10 I1;AB",
		"minus twice":                  "X10 I1;IX IX",
		"minus twice, but not side by": "C100 X10 I1;IC IX IC",
		"minus falling at first":       "C100 X10 I1;XC IC",
		"minus falling at second":      "C100 X10 I1;IX IC",
		"minus falling at last":        "C100 X10 I1;IC XC IX",
		"too many minus":               "A8 B7 C6 D5 E4 F3 G2 H1;BA CA DA EA FA GA HA HB HC",
		"minus ordered by value":       "M1000 D500 C100 L50 X10 V5 I1;CM CD XC XL IX IV",
	} {
		bad[name] = systemOf(text)
	}
	bad["blank letter"] = impl.System{Signs: []impl.Sign{{Letter: ' ', Value: 100}, {Letter: 'I', Value: 1}}}
	bad["no ASCII letter"] = impl.System{Signs: []impl.Sign{{Letter: 0xC4, Value: 100}, {Letter: 'I', Value: 1}}}
	bad["minus with letter 0"] = impl.System{Signs: systemOf("X10 I1;").Signs, Minus: [][2]uint8{{0, 'X'}}}
	bad["minus with letter 0 behind"] = impl.System{Signs: systemOf("X10 I1;").Signs, Minus: [][2]uint8{{'I', 0}}}
	return bad
}

func TestP6SystemsAtTheirLimits(t *testing.T) {
	for _, text := range goodSystems() {
		if !impl.ValidSystem(systemOf(text)) {
			t.Errorf("not valid: %s", text)
		}
		is(t, "SystemText", impl.SystemText(systemOf(text)), text)
	}
	for name, s := range badSystems() {
		if impl.ValidSystem(s) {
			t.Errorf("valid: %s", name)
		}
		is(t, "SystemText, "+name, impl.SystemText(s), "")
	}
	limits := []int64{impl.MaxSigns, impl.MaxMinus, impl.MaxValue, impl.MaxNumber, impl.MaxLong, impl.MaxWorn, impl.MaxReadings, impl.MaxCounted}
	is(t, "limits", limits, []int64{8, 8, 5000, 10000, 16, 4, 500, 1000})
}

func TestP6SameSystems(t *testing.T) {
	texts := append(goodSystems(), "", ";", "X10 I2;IX", "X10 I1;", "X10 I1;IX", "X10 I1;IX IX", "X11 I1;IX", "Y10 I1;IX", "I1 X10;IX", "X10 I1;XI")
	for i, a := range texts {
		for j, b := range texts {
			same := i == j || systemText(systemOf(a)) == systemText(systemOf(b))
			is(t, "SameSystem "+a+" and "+b, impl.SameSystem(systemOf(a), systemOf(b)), same)
		}
	}
	empty := impl.System{Signs: []impl.Sign{}, Minus: [][2]uint8{}}
	is(t, "nil and empty", impl.SameSystem(empty, impl.System{}), true)
	is(t, "empty and nil", impl.SameSystem(impl.System{}, empty), true)
}

// systemText writes a system by hand, valid or not.
func systemText(s impl.System) string { return fmt.Sprint(s.Signs, s.Minus) }

func TestP6OldSystems(t *testing.T) {
	is(t, "OldSystem", impl.OldSystem(false), systemOf(oldText))
	is(t, "plain OldSystem", impl.OldSystem(true), systemOf("M1000 D500 C100 L50 X10 V5 I1;"))
	for _, text := range goodSystems() {
		signs, _, _ := strings.Cut(text, ";")
		plain, code := impl.PlainSystem(systemOf(text))
		is(t, "PlainSystem of "+text, []any{plain, code}, []any{systemOf(signs + ";"), 0})
	}
	for name, s := range badSystems() {
		plain, code := impl.PlainSystem(s)
		isCode(t, "PlainSystem, "+name, code, impl.ErrInvalid, plain)
	}
}

func TestP6Example(t *testing.T) {
	s := impl.OldSystem(false)
	isDivided(t, oldText, "MCMXC", []int64{1000, 900, 90}, true)
	isDivided(t, oldText, "IIII", []int64{1, 1, 1, 1}, true)
	isDivided(t, oldText, "IC", []int64{1, 100}, false)
	isMade(t, oldText, 99, "XCIX", "XCIX")
	n, text, code := impl.LongestNumber(s, 1, 40)
	is(t, "LongestNumber", []any{n, text, code}, []any{33, "XIXIXV", 0})
	count, code := impl.CountRight(s, 4, 4)
	is(t, "CountRight", []any{count, code}, []any{2, 0})
	n, text, code = impl.GreatestOf(s, 3)
	is(t, "GreatestOf", []any{n, text, code}, []any{3000, "MMM", 0})
}

// isDivided looks at what all functions tell of a number.
func isDivided(t *testing.T, system, text string, parts []int64, right bool) {
	t.Helper()
	s, name := systemOf(system), fmt.Sprintf(" of %q in %s", text, system)
	sum := int64(0)
	for _, value := range parts {
		sum += value
	}
	got, code := impl.PartsOf(s, text)
	is(t, "PartsOf"+name, []any{got, code}, []any{parts, 0})
	value, code := impl.ValueOf(s, text)
	is(t, "ValueOf"+name, []any{value, code}, []any{sum, 0})
	isRight, code := impl.IsRight(s, text)
	is(t, "IsRight"+name, []any{isRight, code}, []any{right, 0})
}

// isMade looks at the shortest and the greedy number; "-" is that of a number that would be too long.
func isMade(t *testing.T, system string, n int64, shortest, greedy string) {
	t.Helper()
	s := systemOf(system)
	for _, c := range []struct {
		name string
		make func(impl.System, int64) (string, int64)
		want string
	}{{"ShortestFor", impl.ShortestFor, shortest}, {"GreedyFor", impl.GreedyFor, greedy}} {
		name := fmt.Sprintf("%s %d in %s", c.name, n, system)
		text, code := c.make(s, n)
		if c.want == "-" {
			isCode(t, name, code, impl.ErrLimit, text)
			continue
		}
		is(t, name, []any{text, code}, []any{c.want, 0})
	}
}

func TestP6EmptyNumber(t *testing.T) {
	for _, text := range goodSystems() {
		isDivided(t, text, "", nil, true)
		isMade(t, text, 0, "", "")
		s := systemOf(text)
		n, number, code := impl.LongestNumber(s, 0, 0)
		is(t, "LongestNumber", []any{n, number, code}, []any{0, "", 0})
		n, number, code = impl.GreatestOf(s, 0)
		is(t, "GreatestOf", []any{n, number, code}, []any{0, "", 0})
		wide, code := impl.WidthOfNumber(exampleFace(), s, 0)
		is(t, "WidthOfNumber", []any{wide, code}, []any{0, 0})
		for _, long := range []int64{0, 1, impl.MaxLong} {
			count, code := impl.CountRight(s, 0, long)
			is(t, "CountRight of 0", []any{count, code}, []any{1, 0})
		}
		count, code := impl.CountRight(s, 1, 0)
		is(t, "CountRight without letters", []any{count, code}, []any{0, 0})
	}
}

func TestP6Parts(t *testing.T) {
	isDivided(t, oldText, "MMXXVI", []int64{1000, 1000, 10, 10, 5, 1}, true)
	isDivided(t, oldText, "IVI", []int64{4, 1}, true)
	isDivided(t, oldText, "IXIX", []int64{9, 9}, true)
	isDivided(t, oldText, "IIX", []int64{1, 9}, false)
	isDivided(t, oldText, "IVIX", []int64{4, 9}, false)
	isDivided(t, oldText, "VX", []int64{5, 10}, false)
	isDivided(t, oldText, "MIM", []int64{1000, 1, 1000}, false)
	isDivided(t, oldText, "CDCM", []int64{400, 900}, false)
	// "IX" takes the "X", so that no "XC" is left.
	isDivided(t, oldText, "IXC", []int64{9, 100}, false)
	isDivided(t, oldText, "XCD", []int64{90, 500}, false)
	isDivided(t, oldText, "XXC", []int64{10, 90}, false)
	isDivided(t, oldText, "CXC", []int64{100, 90}, true)
	isDivided(t, "M1000 D500 C100 L50 X10 V5 I1;", "MCMXC", []int64{1000, 100, 1000, 10, 100}, false)
	isDivided(t, takenLetters, "XYZ", []int64{4, 11}, false)
	isDivided(t, takenLetters, "XXYZ", []int64{5, 4, 11}, false)
	isDivided(t, takenLetters, "XYYZ", []int64{4, 2}, true)
	isDivided(t, takenLetters, "YYZ", []int64{9, 2}, true)
	isDivided(t, takenLetters, "XYXYYZYZI", []int64{4, 4, 2, 2, 1}, true)
	isDivided(t, oneSign, "III", []int64{1, 1, 1}, true)
	isDivided(t, "B5000 A1;AB", "BABA", []int64{5000, 4999, 1}, true)
	isDivided(t, eightFull, "ABACAHG", []int64{5000, 1000, 2000, 249}, false)
}

func TestP6NumbersThatAreAsLongAsCanBe(t *testing.T) {
	ones := slices.Repeat([]int64{1}, impl.MaxLong)
	isDivided(t, oldText, "IIIIIIIIIIIIIIII", ones, true)
	isDivided(t, oneSign, "IIIIIIIIIIIIIIII", ones, true)
	isDivided(t, oldText, "IXIXIXIXIXIXIXIX", slices.Repeat([]int64{9}, 8), true)
	isDivided(t, "B5000 A1;", strings.Repeat("B", 16), slices.Repeat([]int64{5000}, 16), true)
	isDivided(t, oldText, "MIXIXIXIXIXIXIXI", []int64{1000, 9, 9, 9, 9, 9, 9, 9, 1}, true)
	isNoNumber(t, oldText, "IIIIIIIIIIIIIIIII")
	isNoNumber(t, oldText, "IXIXIXIXIXIXIXIXI")
	isNoNumber(t, oneSign, strings.Repeat("I", 17))
}

// isNoNumber looks that a text is none; it may be a worn number.
func isNoNumber(t *testing.T, system, text string) {
	t.Helper()
	s, name := systemOf(system), fmt.Sprintf(" of %q in %s", text, system)
	value, code := impl.ValueOf(s, text)
	isCode(t, "ValueOf"+name, code, impl.ErrSyntax, value)
	parts, code := impl.PartsOf(s, text)
	isCode(t, "PartsOf"+name, code, impl.ErrSyntax, parts)
	right, code := impl.IsRight(s, text)
	isCode(t, "IsRight"+name, code, impl.ErrSyntax, right)
}

// noLetters are letters that are no signs of the old system, and no worn ones.
func noLetters() []string {
	// The last ones have the numbers of "I" and of "?", but for higher bits.
	return []string{"A", "Z", "i", "m", " ", ".", "1", "@", "\x00", "\n", "\xc9", "\xff", "\xbf", "Ö", "Ⅰ", "\uFFFD", "\u0149", "\U00010049", "\u013F", "\xc5"}
}

func TestP6LettersThatAreNoSigns(t *testing.T) {
	for _, l := range append(noLetters(), "?") {
		for _, text := range []string{l, l + "I", "I" + l, "X" + l + "I", "MMMMMMMMMM" + l} {
			isNoNumber(t, oldText, text)
		}
	}
	isNoNumber(t, oneSign, "V")
	isNoNumber(t, oneSign, "IV")
	isNoNumber(t, oldText, "IIIIIIIIIIIIIIIIÖ")
}

func TestP6ShortestAndGreedyNumbers(t *testing.T) {
	const plain, two = "M1000 D500 C100 L50 X10 V5 I1;", "B5000 A1;AB"
	for _, c := range []struct {
		system           string
		n                int64
		shortest, greedy string
	}{
		{oldText, 1, "I", "I"}, {oldText, 4, "IV", "IV"}, {oldText, 9, "IX", "IX"}, {oldText, 1990, "MCMXC", "MCMXC"},
		{oldText, 18, "IXIX", "XVIII"}, {oldText, 3888, "MMCMCMLXXIXIX", "MMMDCCCLXXXVIII"}, {oldText, impl.MaxNumber, "MMMMMMMMMM", "MMMMMMMMMM"},
		{plain, 9, "VIIII", "VIIII"}, {plain, 1999, "MDCCCCLXXXXVIIII", "MDCCCCLXXXXVIIII"}, {plain, 2999, "-", "-"},
		{oneSign, 1, "I", "I"}, {oneSign, 16, "IIIIIIIIIIIIIIII", "IIIIIIIIIIIIIIII"}, {oneSign, 17, "-", "-"}, {oneSign, impl.MaxNumber, "-", "-"},
		{two, impl.MaxNumber, "BB", "BB"}, {two, 9999, "BAB", "BAB"}, {two, 4999, "AB", "AB"}, {two, 5015, "BAAAAAAAAAAAAAAA", "BAAAAAAAAAAAAAAA"}, {two, 5016, "-", "-"},
		// The greedy number would be longer than the shortest one, and too long.
		{two, 9998, "ABAB", "-"}, {"Z100 Y60 I1;", 120, "YY", "-"}, {"C4 B3 A1;", 6, "BB", "CAA"},
		{sevens, 7, "BA", "BA"}, {sevens, 1007, "F", "F"}, {sevens, 1049, "ABA", "ABA"}, {sevens, 56, "BABABABABABABABA", "BABABABABABABABA"}, {sevens, 57, "-", "-"},
		{eightFull, 10, "HHHHHHHHHH", "HHHHHHHHHH"}, {eightFull, 5249, "AHG", "AHG"}, {eightFull, 9999, "ABFGHG", "ABFGHG"}, {eightFull, impl.MaxNumber, "AA", "AA"},
	} {
		isMade(t, c.system, c.n, c.shortest, c.greedy)
	}
}

func TestP6OfSeveralShortestNumbersTheFirstText(t *testing.T) {
	isMade(t, oldText, 8, "IVIV", "VIII")
	isMade(t, oldText, 33, "XIXIXV", "XXXIII")
	isMade(t, equalParts, 50, "UT", "VJ")
	isMade(t, "A5 B3 C1;", 6, "AC", "AC")
	isMade(t, "C5 B3 A1;", 6, "BB", "CA")
	// "ZII" and "ZYZ" are as short, and the greedy number is one of them.
	isMade(t, takenLetters, 13, "YXY", "ZYZ")
	// "CE" is the first one as a text, "EB" has the greatest signs, "DC" the least ones, and "II" is as short.
	isMade(t, "B17 E15 C13 D11 I1;CE DC EB", 2, "CE", "CE")
}

func TestP6GreedyPartsOfTheSameValue(t *testing.T) {
	// A letter alone is ahead of minus pairs, whatever the letters are.
	isMade(t, equalParts, 10, "J", "J")
	isMade(t, equalParts, 20, "T", "T")
	isMade(t, equalParts, 30, "U", "U")
	isMade(t, "C20 A10 B1;AC", 10, "A", "A")
	isMade(t, "A20 Z10 B1;ZA", 10, "Z", "Z")
	// Of minus pairs it is the first one.
	isMade(t, "E17 D15 C13 B11 I1;BC CD DE", 4, "BCBC", "BCBC")
	isMade(t, "B17 C15 D13 E11 I1;CB DC ED", 4, "CBCB", "CBCB")
	isMade(t, "E17 D15 C13 B11 A1;BC CD DE", 2, "AA", "BC")
	isMade(t, "B17 E15 C13 D11 A1;CE DC EB", 2, "AA", "CE")
}

func TestP6ALetterAloneTakesWhatIsBehindIt(t *testing.T) {
	s := systemOf(takenLetters)
	// "X" and "YZ" would be 7 in three letters, but they are divided as "XY" and "Z".
	for _, c := range []struct {
		n        int64
		shortest string
	}{{7, "XII"}, {6, "XI"}, {4, "XY"}, {2, "II"}, {8, "XIII"}, {12, "ZI"}, {14, "YX"}, {15, "XXX"}, {16, "ZX"}, {18, "YY"}} {
		text, code := impl.ShortestFor(s, c.n)
		is(t, fmt.Sprintf("ShortestFor %d", c.n), []any{text, code}, []any{c.shortest, 0})
	}
	// These are "XII", and then "XYIII" and "XYYZI".
	for _, c := range []struct{ long, count int64 }{{2, 0}, {3, 1}, {4, 1}, {5, 3}} {
		count, code := impl.CountRight(s, 7, c.long)
		is(t, fmt.Sprintf("CountRight 7 with %d", c.long), []any{count, code}, []any{c.count, 0})
	}
	readings, code := impl.Readings(s, "X?Z")
	isTexts(t, "Readings", readings, code, nil)
	// The greedy number is what is made so, though it is divided otherwise.
	text, code := impl.GreedyFor(s, 7)
	is(t, "GreedyFor 7", []any{text, code}, []any{"XYZ", 0})
}

func TestP6NumbersOutOfRange(t *testing.T) {
	for _, n := range []int64{-1, impl.MaxNumber + 1, math.MaxInt64, math.MinInt64, 1 << 32, -1 << 32} {
		// In the second system numbers of this size would be too long, too.
		for _, s := range []impl.System{impl.OldSystem(false), systemOf(oneSign)} {
			text, code := impl.ShortestFor(s, n)
			isCode(t, "ShortestFor", code, impl.ErrRange, text)
			text, code = impl.GreedyFor(s, n)
			isCode(t, "GreedyFor", code, impl.ErrRange, text)
			wide, code := impl.WidthOfNumber(plainFace(), s, n)
			isCode(t, "WidthOfNumber", code, impl.ErrRange, wide)
			for _, other := range []int64{0, 17, impl.MaxNumber, n} {
				number, text, code := impl.LongestNumber(s, n, other)
				isCode(t, "LongestNumber from n", code, impl.ErrRange, number, text)
				number, text, code = impl.LongestNumber(s, other, n)
				isCode(t, "LongestNumber to n", code, impl.ErrRange, number, text)
			}
		}
	}
	s := impl.OldSystem(false)
	for _, long := range []int64{-1, impl.MaxLong + 1, math.MaxInt64, math.MinInt64, 1 << 32} {
		number, text, code := impl.GreatestOf(s, long)
		isCode(t, "GreatestOf", code, impl.ErrRange, number, text)
		for _, n := range []int64{0, 1, impl.MaxCounted, -1} {
			count, code := impl.CountRight(s, n, long)
			isCode(t, "CountRight, long", code, impl.ErrRange, count)
		}
	}
	for _, n := range []int64{-1, impl.MaxCounted + 1, impl.MaxNumber, math.MaxInt64, math.MinInt64, 1 << 32} {
		for _, long := range []int64{0, impl.MaxLong} {
			count, code := impl.CountRight(s, n, long)
			isCode(t, "CountRight, n", code, impl.ErrRange, count)
		}
	}
}

func TestP6LongestNumbers(t *testing.T) {
	for _, c := range []struct {
		system    string
		low, high int64
		n         int64
		text      string
		code      int64
	}{
		{oldText, 0, 3, 3, "III", 0}, {oldText, 3, 4, 3, "III", 0}, {oldText, 4, 5, 4, "IV", 0}, {oldText, 5, 5, 5, "V", 0},
		// 37 and 38 are as long.
		{oldText, 33, 33, 33, "XIXIXV", 0}, {oldText, 34, 40, 37, "XXXVII", 0}, {oldText, 38, 40, 38, "XXIXIX", 0},
		{oldText, impl.MaxNumber, impl.MaxNumber, impl.MaxNumber, "MMMMMMMMMM", 0}, {oldText, 0, impl.MaxNumber, 6388, "MMMMCMCMDLXXIXIX", 0},
		{oneSign, 0, 15, 15, "IIIIIIIIIIIIIII", 0}, {oneSign, 0, impl.MaxNumber, 16, "IIIIIIIIIIIIIIII", 0}, {oneSign, 16, 17, 16, "IIIIIIIIIIIIIIII", 0},
		{oneSign, 17, 17, 0, "", impl.ErrNotFound}, {oneSign, 17, impl.MaxNumber, 0, "", impl.ErrNotFound},
		// 41, 46, 51 and 56 have 16 letters.
		{sevens, 16, 57, 41, "BABABABABAIIIIII", 0}, {sevens, 52, 57, 56, "BABABABABABABABA", 0}, {sevens, 57, 57, 0, "", impl.ErrNotFound},
		{"B5000 A1;", 5000, 5020, 5015, "BAAAAAAAAAAAAAAA", 0}, {"B5000 A1;", 17, 4999, 0, "", impl.ErrNotFound}, {"B5000 A1;", 17, 5000, 5000, "B", 0},
		{oldText, 2, 1, 0, "", impl.ErrRange}, {oldText, impl.MaxNumber, 0, 0, "", impl.ErrRange}, {oneSign, 18, 17, 0, "", impl.ErrRange},
	} {
		n, text, code := impl.LongestNumber(systemOf(c.system), c.low, c.high)
		is(t, fmt.Sprintf("LongestNumber from %d to %d in %s", c.low, c.high, c.system), []any{n, text, code}, []any{c.n, c.text, c.code})
	}
}

func TestP6GreatestNumbers(t *testing.T) {
	for _, c := range []struct {
		system string
		long   int64
		n      int64
		text   string
	}{
		{oldText, 1, 1000, "M"}, {oldText, 16, 16000, "MMMMMMMMMMMMMMMM"}, {oneSign, 1, 1, "I"}, {oneSign, 16, 16, "IIIIIIIIIIIIIIII"},
		{"B5000 A1;AB", 2, 10000, "BB"}, {eightFull, 16, 80000, "AAAAAAAAAAAAAAAA"}, {takenLetters, 3, 33, "ZZZ"}, {sevens, 2, 2084, "AA"},
	} {
		n, text, code := impl.GreatestOf(systemOf(c.system), c.long)
		is(t, fmt.Sprintf("GreatestOf %d in %s", c.long, c.system), []any{n, text, code}, []any{c.n, c.text, 0})
	}
}

func TestP6CountedNumbers(t *testing.T) {
	for _, c := range []struct {
		system         string
		n, long, count int64
	}{
		{oldText, 4, 1, 0}, {oldText, 4, 2, 1}, {oldText, 4, 3, 1}, {oldText, 4, 16, 2}, {oldText, 1, 1, 1}, {oldText, 1, 16, 1},
		{oldText, 5, 2, 1}, {oldText, 5, 4, 2}, {oldText, 5, 5, 3}, {oldText, 5, 16, 3},
		{oldText, impl.MaxCounted, 0, 0}, {oldText, impl.MaxCounted, 1, 1}, {oldText, impl.MaxCounted, 2, 2},
		{"M1000 D500 C100 L50 X10 V5 I1;", 4, 4, 1}, {"M1000 D500 C100 L50 X10 V5 I1;", 10, 16, 4},
		{oneSign, 16, 16, 1}, {oneSign, 16, 15, 0}, {oneSign, 17, 16, 0}, {oneSign, impl.MaxCounted, 16, 0},
		// Each seven is one of six minus pairs, or letters of the value 1.
		{sevens, 7, 2, 6}, {sevens, 7, 7, 7}, {sevens, 14, 16, 36 + 6 + 1}, {sevens, 56, 16, 6 * 6 * 6 * 6 * 6 * 6 * 6 * 6}, {sevens, 56, 15, 0},
		// Parts of one value come in any order, but for "J" and "TU", which are divided as "JT" and "U".
		{equalParts, 10, 3, 4}, {equalParts, 20, 4, 2 + 4*4 - 1},
	} {
		count, code := impl.CountRight(systemOf(c.system), c.n, c.long)
		is(t, fmt.Sprintf("CountRight %d with %d in %s", c.n, c.long, c.system), []any{count, code}, []any{c.count, 0})
	}
}

func TestP6WidthsOfShortestNumbers(t *testing.T) {
	f := plainFace(impl.Pair{A: 'I', B: 'X', By: 5}, impl.Pair{A: 'X', B: 'C', By: -2})
	for _, c := range []struct{ n, wide int64 }{{0, 0}, {1, 10}, {2, 22}, {9, 27}, {90, 20}, {99, 49}, {11, 22}, {impl.MaxNumber, 118}} {
		wide, code := impl.WidthOfNumber(f, impl.OldSystem(false), c.n)
		is(t, fmt.Sprintf("WidthOfNumber %d", c.n), []any{wide, code}, []any{c.wide, 0})
	}
	wide, code := impl.WidthOfNumber(f, systemOf(oneSign), 16)
	is(t, "WidthOfNumber 16", []any{wide, code}, []any{190, 0})
	wide, code = impl.WidthOfNumber(f, systemOf(oneSign), 17)
	isCode(t, "WidthOfNumber 17", code, impl.ErrLimit, wide)
}

func TestP6TextsOfNoSystem(t *testing.T) {
	for _, text := range []string{
		"", ";", ";;", " ", "x", "I", "I1", "1", "1;", "I;", "I1;;", "I1; ", "I1 ;", " I1;", "I1;\n", "I01;", "I+1;", "I1.0;", "I 1;", "X10 I1", "X10  I1;", "X10,I1;", "X10 I1;I", "X10 I1;IXI", "X10 I1;IX ", "X10 I1; IX", "X10 I1;IX;",
		"X010 I1;", "X+10 I1;", "X-10 I1;", "X0xA I1;", "X1_0 I1;", "X5001 I1;", "X32768 I1;", "X65537 I1;", "X99999999999999999999 I1;", "X I1;", "IX;X10 I1", "XX10 I1;", "X10I1;", "C100 X10 I1;IXXC", "C100 X10 I1;IX  XC",
		"C100 X10 I1;XC IX", "C100 X10 I1;IX IX", "X10 I1;XI", "x10 i1;", oldText + " ", oldText + ";", " " + oldText,
	} {
		s, code := impl.ReadSystem(text)
		isCode(t, fmt.Sprintf("ReadSystem %q", text), code, impl.ErrSyntax, s)
	}
	for name, s := range badSystems() {
		read, code := impl.ReadSystem(systemTextByHand(s))
		isCode(t, "ReadSystem, "+name, code, impl.ErrSyntax, read)
	}
	for _, text := range goodSystems() {
		s, code := impl.ReadSystem(text)
		is(t, "ReadSystem "+text, []any{s, code}, []any{systemOf(text), 0})
	}
}

// wornFour are the results of all functions with worn numbers; readings between 16 and 41 are asked for.
type wornFour struct {
	readings, between []string
	values            []int64
	sure              string
}

func isWorn(t *testing.T, system, worn string, want wornFour) {
	t.Helper()
	s, name := systemOf(system), fmt.Sprintf(" of %q in %s", worn, system)
	readings, code := impl.Readings(s, worn)
	isTexts(t, "Readings"+name, readings, code, want.readings)
	between, code := impl.ReadingsBetween(s, worn, 16, 41)
	isTexts(t, "ReadingsBetween"+name, between, code, want.between)
	values, code := impl.ValuesOf(s, worn)
	is(t, "ValuesOf"+name, []any{values, code}, []any{want.values, 0})
	sure, code := impl.SureLetters(s, worn)
	if len(want.readings) == 0 {
		isCode(t, "SureLetters"+name, code, impl.ErrNotFound, sure)
		return
	}
	is(t, "SureLetters"+name, []any{sure, code}, []any{want.sure, 0})
}

// isNotWorn looks for a code of all functions with worn numbers.
func isNotWorn(t *testing.T, system, worn string, want int64) {
	t.Helper()
	s, name := systemOf(system), fmt.Sprintf(" of %q in %s", worn, system)
	readings, code := impl.Readings(s, worn)
	isCode(t, "Readings"+name, code, want, readings)
	for _, ends := range [][2]int64{{math.MinInt64, math.MaxInt64}, {16, 41}, {1, 0}, {-2, -1}} {
		between, code := impl.ReadingsBetween(s, worn, ends[0], ends[1])
		isCode(t, "ReadingsBetween"+name, code, want, between)
	}
	values, code := impl.ValuesOf(s, worn)
	isCode(t, "ValuesOf"+name, code, want, values)
	sure, code := impl.SureLetters(s, worn)
	isCode(t, "SureLetters"+name, code, want, sure)
}

func TestP7Example(t *testing.T) {
	isWorn(t, oldText, "X?I", wornFour{[]string{"XCI", "XII", "XLI", "XVI", "XXI"}, []string{"XLI", "XVI", "XXI"}, []int64{12, 16, 21, 41, 91}, "X?I"})
	isWorn(t, oldText, "X?C", wornFour{})
}

func TestP7NumbersThatAreNotWorn(t *testing.T) {
	isWorn(t, oldText, "", wornFour{readings: []string{""}, values: []int64{0}})
	isWorn(t, oldText, "XVI", wornFour{[]string{"XVI"}, []string{"XVI"}, []int64{16}, "XVI"})
	isWorn(t, oldText, "MCMXC", wornFour{[]string{"MCMXC"}, nil, []int64{1990}, "MCMXC"})
	isWorn(t, oneSign, "IIIIIIIIIIIIIIII", wornFour{[]string{"IIIIIIIIIIIIIIII"}, []string{"IIIIIIIIIIIIIIII"}, []int64{16}, "IIIIIIIIIIIIIIII"})
	// These are numbers, but not right.
	for _, worn := range []string{"IC", "IXC", "IIX", "VX", "MIM"} {
		isWorn(t, oldText, worn, wornFour{})
	}
}

func TestP7SureLetters(t *testing.T) {
	const plain = "M1000 D500 C100 L50 X10 V5 I1;"
	isWorn(t, oneSign, "?", wornFour{[]string{"I"}, nil, []int64{1}, "I"})
	isWorn(t, oneSign, "????", wornFour{[]string{"IIII"}, nil, []int64{4}, "IIII"})
	isWorn(t, oneSign, "I?I?IIIIIIIII??I", wornFour{[]string{"IIIIIIIIIIIIIIII"}, []string{"IIIIIIIIIIIIIIII"}, []int64{16}, "IIIIIIIIIIIIIIII"})
	isWorn(t, oldText, "?", wornFour{[]string{"C", "D", "I", "L", "M", "V", "X"}, nil, []int64{1, 5, 10, 50, 100, 500, 1000}, "?"})
	isWorn(t, oldText, "I?", wornFour{[]string{"II", "IV", "IX"}, nil, []int64{2, 4, 9}, "I?"})
	isWorn(t, oldText, "M?M", wornFour{[]string{"MCM", "MMM"}, nil, []int64{1900, 3000}, "M?M"})
	isWorn(t, plain, "I?", wornFour{[]string{"II"}, nil, []int64{2}, "II"})
	isWorn(t, plain, "V?V?", wornFour{[]string{"VVVI", "VVVV"}, []string{"VVVI", "VVVV"}, []int64{16, 20}, "VVV?"})
	isWorn(t, plain, "X?V?", wornFour{[]string{"XVVI", "XVVV", "XXVI", "XXVV"}, []string{"XVVI", "XVVV", "XXVI", "XXVV"}, []int64{21, 25, 26, 30}, "X?V?"})
	isWorn(t, equalParts, "?T", wornFour{[]string{"JT", "TT", "UT", "VT"}, []string{"TT"}, []int64{10, 40, 50, 60}, "?T"})
	// Different readings can have one value.
	isWorn(t, "D17 C15 B13 I1;BC CD", "??", wornFour{[]string{"BB", "BC", "BI", "CB", "CC", "CD", "CI", "DB", "DC", "DD", "DI", "II"}, []string{"BB", "CB", "CC", "CI", "DB", "DC", "DD", "DI"}, []int64{2, 14, 16, 18, 26, 28, 30, 32, 34}, "??"})
}

func TestP7ReadingsBetween(t *testing.T) {
	all := []string{"XCI", "XII", "XLI", "XVI", "XXI"} // 91, 12, 41, 16 and 21
	for _, c := range []struct {
		low, high int64
		want      []string
	}{
		{math.MinInt64, math.MaxInt64, all}, {12, 91, all}, {13, 91, []string{"XCI", "XLI", "XVI", "XXI"}}, {12, 90, []string{"XII", "XLI", "XVI", "XXI"}}, {91, 91, []string{"XCI"}}, {12, 12, []string{"XII"}},
		{17, 20, nil}, {-5, 11, nil}, {92, math.MaxInt64, nil}, {21, 16, nil}, {91, 12, nil}, {math.MaxInt64, math.MinInt64, nil}, {math.MinInt64, -1, nil}, {16, 1 << 32, []string{"XCI", "XLI", "XVI", "XXI"}},
	} {
		got, code := impl.ReadingsBetween(impl.OldSystem(false), "X?I", c.low, c.high)
		isTexts(t, fmt.Sprintf("ReadingsBetween %d and %d", c.low, c.high), got, code, c.want)
	}
}

func TestP7AsManyWornLettersAsCanBe(t *testing.T) {
	for _, worn := range []string{"????", "?M??X?", "M??XXII??", "IIIIIIIIIIII????", "????IIIIIIIIIIII", "MMDDCC??XXVVI??I"} {
		want := readingsByHand(systemOf(oldText), worn)
		got, code := impl.Readings(systemOf(oldText), worn)
		isTexts(t, "Readings of "+worn, got, code, want)
	}
	for _, worn := range []string{"?????", "M?????", "????X?", "????????????????", "C?C?C?C?C?", "IM?????"} {
		for _, system := range []string{oldText, "M1000 C100 X10 I1;"} {
			isNotWorn(t, system, worn, impl.ErrLimit)
		}
	}
	isNotWorn(t, oneSign, "?????", impl.ErrLimit)
}

func TestP7WornNumbersThatAreNone(t *testing.T) {
	for _, l := range noLetters() {
		for _, worn := range []string{l, l + "I", "I" + l, "?" + l, l + "?", "X?" + l + "I", "?????" + l, l + "?????"} {
			isNotWorn(t, oldText, worn, impl.ErrSyntax)
		}
	}
	for _, worn := range []string{"IIIIIIIIIIIIIIIII", "?IIIIIIIIIIIIIIII", "IIIIIIIIIIIIIIII?", "?????????????????", "IIIIIIIIIIIIIIIIÖ", strings.Repeat("?", 1000)} {
		isNotWorn(t, oldText, worn, impl.ErrSyntax)
		isNotWorn(t, oneSign, worn, impl.ErrSyntax)
	}
}

func TestP7AsManyReadingsAsCanBe(t *testing.T) {
	s := systemOf(fullSystem)
	want := readingsByHand(s, fullWorn)
	is(t, "readings by hand", len(want), impl.MaxReadings)
	all, code := impl.Readings(s, fullWorn)
	isTexts(t, "Readings", all, code, want)
	some, code := impl.ReadingsBetween(s, fullWorn, math.MinInt64, math.MaxInt64)
	isTexts(t, "ReadingsBetween", some, code, want)
	none, code := impl.ReadingsBetween(s, fullWorn, 1, 0)
	isTexts(t, "ReadingsBetween", none, code, nil)
	values, code := impl.ValuesOf(s, fullWorn)
	is(t, "ValuesOf", []any{len(values) > 100, code}, []any{true, 0})
	sure, code := impl.SureLetters(s, fullWorn)
	is(t, "SureLetters", []any{sure, code}, []any{"???A?", 0})
	is(t, "readings over the limit by hand", len(readingsByHand(systemOf(overSystem), overWorn)), impl.MaxReadings+1)
	isNotWorn(t, overSystem, overWorn, impl.ErrLimit)
}
