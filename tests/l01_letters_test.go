package tests

import (
	"math"
	"slices"
	"strings"
	"testing"

	"loop.example/g01398/impl"
)

// This file has the example of chapter 1, and what the document says of single inputs, one by one.

func TestCodesHaveNames(t *testing.T) {
	names := []string{"ok", "invalid", "range", "limit", "state", "syntax", "notfound", "budget", "proof"}
	codes := []int64{impl.OK, impl.ErrInvalid, impl.ErrRange, impl.ErrLimit, impl.ErrState, impl.ErrSyntax, impl.ErrNotFound, impl.ErrBudget, impl.ErrProof}
	for i, name := range names {
		is(t, "code", codes[i], i)
		is(t, "name", impl.CodeName(int64(i)), name)
	}
	for _, code := range []int64{-1, 9, 256, 1 << 32, math.MinInt64, math.MaxInt64} {
		is(t, "name of no code", impl.CodeName(code), "")
	}
	is(t, "limits", []int{impl.MaxLetter, impl.MaxPairs, impl.MaxText, impl.MaxWide}, []int{40, 12, 60, 4000})
}

func TestP3Example(t *testing.T) {
	f := exampleFace()
	line, code := impl.LineWide(f, "AVE VIA")
	is(t, "LineWide", []any{line, code}, []any{72, 0})
	first, code := impl.WordWide(f, "AVE")
	is(t, "WordWide", []any{first, code}, []any{32, 0})
	second, code := impl.WordWide(f, "VIA")
	is(t, "WordWide", []any{second, code}, []any{34, 0})
	places, code := impl.PlacesOf(f, "AVE VIA")
	is(t, "PlacesOf", []any{places, code}, []any{[]int64{0, 10, 22, 38, 50, 62}, 0})
	ahead, code := impl.CentreLine(f, "AVE VIA", 81)
	is(t, "CentreLine", []any{ahead, code}, []any{4, 0})
	spaces, code := impl.JustifyLine(f, "AVE VIA", 80)
	is(t, "JustifyLine", []any{spaces, code}, []any{[]int64{14}, 0})
}

func TestP2ValidFaceAtItsLimits(t *testing.T) {
	if f := exampleFace(); !impl.ValidFace(f) {
		t.Errorf("not valid: %v", f)
	}
	for _, n := range []int8{1, impl.MaxLetter} {
		f := plainFace()
		for i := range f.Wide {
			f.Wide[i] = n
		}
		f.Space = n
		if !impl.ValidFace(f) {
			t.Errorf("not valid: %v", f)
		}
	}
	for gap := int8(0); gap <= 10; gap++ {
		f := plainFace(impl.Pair{A: 'A', B: 'A', By: 10}, impl.Pair{A: 'Z', B: 'Z', By: -gap})
		if f.Gap = gap; gap == 0 {
			f.Pairs = f.Pairs[:1]
		}
		if !impl.ValidFace(f) {
			t.Errorf("not valid: %v", f)
		}
	}
	if f := plainFace(manyPairs(impl.MaxPairs)...); !impl.ValidFace(f) {
		t.Errorf("not valid: %v", f)
	}
	for name, f := range badFaces() {
		if impl.ValidFace(f) {
			t.Errorf("valid: %s", name)
		}
	}
}

func TestP2SameFace(t *testing.T) {
	if !impl.SameFace(exampleFace(), exampleFace()) || !impl.SameFace(impl.Face{}, impl.Face{Pairs: []impl.Pair{}}) {
		t.Error("equal faces are not the same")
	}
	for name, f := range badFaces() {
		same := f
		same.Pairs = slices.Clone(f.Pairs)
		if !impl.SameFace(f, same) {
			t.Errorf("not the same as itself: %s", name)
		}
		if impl.SameFace(f, exampleFace()) || impl.SameFace(exampleFace(), f) {
			t.Errorf("the same as the example: %s", name)
		}
	}
	if impl.SameFace(exampleFace(), plainFace()) || impl.SameFace(plainFace(), exampleFace()) {
		t.Error("the same with a pair and without")
	}
}

func TestP3ValidTextAtItsLimits(t *testing.T) {
	full := strings.Repeat("A", impl.MaxText)
	for _, text := range []string{"", "A", "Z", "A B", "AZ ZA MM", full, full[:58] + " Z", strings.Repeat("A ", 29) + "AB"} {
		if !impl.ValidText(text) {
			t.Errorf("not valid: %q", text)
		}
	}
	for _, text := range badTexts() {
		if impl.ValidText(text) {
			t.Errorf("valid: %q", text)
		}
	}
	for b := range 256 {
		if got, want := impl.ValidText(string([]byte{byte(b)})), b >= 'A' && b <= 'Z'; got != want {
			t.Errorf("a text of the byte %d: got %v", b, got)
		}
	}
}

func TestP3WordsOfTexts(t *testing.T) {
	words, code := impl.WordsOf("")
	is(t, "words of the empty text", []any{len(words), code}, []any{0, 0})
	words, code = impl.WordsOf("A BC DEF")
	is(t, "WordsOf", []any{len(words), words, code}, []any{3, []string{"A", "BC", "DEF"}, 0})
	for _, text := range badTexts() {
		words, code := impl.WordsOf(text)
		isCode(t, "WordsOf", code, impl.ErrInvalid, words)
	}
}

func TestP3TextsOfWords(t *testing.T) {
	text, code := impl.JoinWords(nil)
	is(t, "JoinWords of none", []any{text, code}, []any{"", 0})
	text, code = impl.JoinWords([]string{"A", "BC", "DEF"})
	is(t, "JoinWords", []any{text, code}, []any{"A BC DEF", 0})
	full := strings.Repeat("A", impl.MaxText)
	text, code = impl.JoinWords([]string{full})
	is(t, "JoinWords of a full word", []any{text, code}, []any{full, 0})
	text, code = impl.JoinWords([]string{full[:58], "B"})
	is(t, "JoinWords of a full text", []any{text, code}, []any{full[:58] + " B", 0})
	bad := [][]string{{""}, {"A", ""}, {"", "A"}, {"A B"}, {"A", " "}, {"A", "b"}, {"A "}, {full + "A"}, {full[:58], "BC"}, {full[:57], "B", "C"}, strings.Split(strings.Repeat("A", 31), "")}
	for _, words := range bad {
		text, code := impl.JoinWords(words)
		isCode(t, "JoinWords "+strings.Join(words, ","), code, impl.ErrInvalid, text)
	}
	for _, word := range badTexts() {
		text, code := impl.JoinWords([]string{"A", word})
		isCode(t, "JoinWords "+word, code, impl.ErrInvalid, text)
	}
}

func TestP2PairsAreTold(t *testing.T) {
	f := unevenFace()
	for _, c := range []struct {
		a, b byte
		by   int64
	}{{'A', 'B', 4}, {'B', 'A', -3}, {'B', 'B', -1}, {'A', 'A', 0}, {'A', 'C', 0}, {'Z', 'Z', 0}} {
		by, code := impl.PairBy(f, c.a, c.b)
		is(t, "PairBy", []any{by, code}, []any{c.by, 0})
	}
	by, code := impl.PairBy(plainFace(), 'A', 'V')
	is(t, "PairBy without pairs", []any{by, code}, []any{0, 0})
	for _, b := range []byte{0, ' ', '@', '[', 'a', 0xC1, 255} {
		by, code := impl.PairBy(f, b, 'A')
		isCode(t, "PairBy with no letter first", code, impl.ErrRange, by)
		by, code = impl.PairBy(f, 'A', b)
		isCode(t, "PairBy with no letter behind", code, impl.ErrRange, by)
		by, code = impl.PairBy(impl.Face{}, b, b)
		isCode(t, "PairBy with no face", code, impl.ErrInvalid, by)
	}
}

// isWith puts a pair and looks at all pairs that there are then.
func isWith(t *testing.T, name string, f impl.Face, p impl.Pair, want ...impl.Pair) {
	t.Helper()
	with, code := impl.WithPair(f, p)
	f.Pairs = want
	if code != impl.OK || !equalFaces(with, f) {
		t.Errorf("%s: got %v and %d", name, with, code)
	}
	if by, code := impl.PairBy(with, p.A, p.B); code != impl.OK || by != int64(p.By) {
		t.Errorf("%s: the pair is told as %d with %d", name, by, code)
	}
}

func TestP2PairsArePutInTheirPlaces(t *testing.T) {
	ab, ba, bb := impl.Pair{A: 'A', B: 'B', By: 4}, impl.Pair{A: 'B', B: 'A', By: -3}, impl.Pair{A: 'B', B: 'B', By: -1}
	f := unevenFace()
	aa, az, zz := impl.Pair{A: 'A', B: 'A', By: 1}, impl.Pair{A: 'A', B: 'Z', By: -2}, impl.Pair{A: 'Z', B: 'Z', By: 10}
	isWith(t, "first", f, aa, aa, ab, ba, bb)
	isWith(t, "between", f, az, ab, az, ba, bb)
	isWith(t, "last", f, zz, ab, ba, bb, zz)
	isWith(t, "only", plainFace(), zz, zz)
	isWith(t, "again", f, ba, ab, ba, bb)
	other := impl.Pair{A: 'B', B: 'A', By: 7}
	isWith(t, "another by", f, other, ab, other, bb)
	isWith(t, "first taken away", f, impl.Pair{A: 'A', B: 'B'}, ba, bb)
	isWith(t, "middle taken away", f, impl.Pair{A: 'B', B: 'A'}, ab, bb)
	isWith(t, "last taken away", f, impl.Pair{A: 'B', B: 'B'}, ab, ba)
	isWith(t, "only one taken away", plainFace(ab), impl.Pair{A: 'A', B: 'B'})
	isWith(t, "one that is not there taken away", f, impl.Pair{A: 'Q', B: 'Q'}, ab, ba, bb)
	isWith(t, "taken away from none", plainFace(), impl.Pair{A: 'A', B: 'A'})
	just := impl.Pair{A: 'C', B: 'C', By: -3}
	isWith(t, "gap and by just 0", f, just, ab, ba, bb, just)
}

func TestP2PairsUpToMaxPairs(t *testing.T) {
	almost := plainFace(manyPairs(impl.MaxPairs - 1)...)
	isWith(t, "the last one that goes", almost, impl.Pair{A: 'B', B: 'W', By: 1}, manyPairs(impl.MaxPairs)...)
	full := plainFace(manyPairs(impl.MaxPairs)...)
	isWith(t, "one that is there", full, impl.Pair{A: 'B', B: 'W', By: 1}, manyPairs(impl.MaxPairs)...)
	isWith(t, "one taken away", full, impl.Pair{A: 'B', B: 'W'}, manyPairs(impl.MaxPairs-1)...)
	isWith(t, "none taken away", full, impl.Pair{A: 'B', B: 'Z'}, manyPairs(impl.MaxPairs)...)
	for _, p := range []impl.Pair{{A: 'A', B: 'A', By: 1}, {A: 'B', B: 'B', By: -2}, {A: 'Z', B: 'Z', By: 10}} {
		with, code := impl.WithPair(full, p)
		isCode(t, "one too many", code, impl.ErrLimit, with)
	}
}

func TestP2PairsThatAreWrong(t *testing.T) {
	full := plainFace(manyPairs(impl.MaxPairs)...)
	bad := []impl.Pair{
		{A: '@', B: 'A', By: 1}, {A: '[', B: 'A', By: 1}, {A: 'A', B: '@', By: 1}, {A: 'A', B: '[', By: 1}, {A: 'a', B: 'A'}, {A: 'A', B: 'a'}, {},
		{A: 'A', B: 'B', By: -3}, {A: 'A', B: 'B', By: 11}, {A: 'A', B: 'B', By: 127}, {A: 'A', B: 'B', By: -128}, {A: 'B', B: 'A', By: -3},
	}
	for _, p := range bad {
		for _, f := range []impl.Face{plainFace(), exampleFace(), full} {
			with, code := impl.WithPair(f, p)
			isCode(t, "WithPair", code, impl.ErrState, with)
		}
		with, code := impl.WithPair(impl.Face{}, p)
		isCode(t, "WithPair of no face", code, impl.ErrInvalid, with)
	}
	wide := plainFace()
	wide.Gap = 10
	with, code := impl.WithPair(wide, impl.Pair{A: 'A', B: 'B', By: -11})
	isCode(t, "by too small", code, impl.ErrState, with)
	isWith(t, "by just small enough", wide, impl.Pair{A: 'A', B: 'B', By: -10}, impl.Pair{A: 'A', B: 'B', By: -10})
}

func TestP3Widths(t *testing.T) {
	f := unevenFace()
	for _, c := range []struct {
		text string
		wide int64
	}{{"", 0}, {"A", 1}, {"Z", 26}, {"AB", 1 + 7 + 2}, {"BA", 2 + 0 + 1}, {"BB", 2 + 2 + 2}, {"AC", 1 + 3 + 3}, {"A B", 1 + 7 + 2}, {"B A B", 2 + 7 + 1 + 7 + 2}} {
		wide, code := impl.LineWide(f, c.text)
		is(t, "LineWide "+c.text, []any{wide, code}, []any{c.wide, 0})
		wide, code = impl.WordWide(f, c.text)
		if c.text == "" || strings.Contains(c.text, " ") {
			isCode(t, "WordWide "+c.text, code, impl.ErrInvalid, wide)
		} else {
			is(t, "WordWide "+c.text, []any{wide, code}, []any{c.wide, 0})
		}
	}
}

func TestP3WidestLine(t *testing.T) {
	f := plainFace(impl.Pair{A: 'A', B: 'A', By: 10})
	f.Gap = 10
	f.Wide[0] = impl.MaxLetter
	text := strings.Repeat("A", impl.MaxText)
	wide, code := impl.LineWide(f, text)
	is(t, "LineWide", []any{wide, code}, []any{60*40 + 59*20, 0})
	places, code := impl.PlacesOf(f, text)
	is(t, "PlacesOf", []any{len(places), places[59], code}, []any{60, 59 * 60, 0})
	at, code := impl.LetterAt(f, text, 60*40+59*20-1)
	is(t, "LetterAt", []any{at, code}, []any{59, 0})
}

func TestP3LetterAtEachSide(t *testing.T) {
	f := exampleFace()
	for _, c := range []struct{ place, letter, code int64 }{
		{0, 0, 0}, {9, 0, 0}, {10, 1, 0}, {19, 1, 0}, {20, 0, impl.ErrNotFound}, {21, 0, impl.ErrNotFound}, {22, 2, 0}, {31, 2, 0},
		{32, 0, impl.ErrNotFound}, {37, 0, impl.ErrNotFound}, {38, 3, 0}, {62, 5, 0}, {71, 5, 0},
		{72, 0, impl.ErrRange}, {-1, 0, impl.ErrRange}, {math.MaxInt64, 0, impl.ErrRange}, {math.MinInt64, 0, impl.ErrRange},
	} {
		letter, code := impl.LetterAt(f, "AVE VIA", c.place)
		is(t, "LetterAt", []any{letter, code}, []any{c.letter, c.code})
	}
	for _, place := range []int64{-1, 0, 1} {
		letter, code := impl.LetterAt(f, "", place)
		isCode(t, "LetterAt of the empty text", code, impl.ErrRange, letter)
	}
	places, code := impl.PlacesOf(f, "")
	is(t, "PlacesOf of the empty text", []any{len(places), code}, []any{0, 0})
}

func TestP3WidestWordIsTheFirstOne(t *testing.T) {
	for _, c := range []struct {
		text        string
		index, wide int64
	}{{"A", 0, 1}, {"A B", 1, 2}, {"B A", 0, 2}, {"A Z B Z", 1, 26}, {"AB J", 0, 10}, {"J AB", 0, 10}, {"AAA Z AB", 1, 26}} {
		index, wide, code := impl.WidestWord(unevenFace(), c.text)
		is(t, "WidestWord "+c.text, []any{index, wide, code}, []any{c.index, c.wide, 0})
	}
	index, wide, code := impl.WidestWord(unevenFace(), "")
	isCode(t, "WidestWord of the empty text", code, impl.ErrNotFound, index, wide)
	index, wide, code = impl.WidestWord(impl.Face{}, "")
	isCode(t, "WidestWord of no face", code, impl.ErrInvalid, index, wide)
}

func TestP3CentredLines(t *testing.T) {
	f := plainFace()
	for _, c := range []struct {
		text              string
		wide, ahead, code int64
	}{
		{"A", 10, 0, 0}, {"A", 11, 0, 0}, {"A", 12, 1, 0}, {"A", 13, 1, 0}, {"A", 4000, 1995, 0}, {"", 0, 0, 0}, {"", 1, 0, 0}, {"", 4000, 2000, 0},
		{"A", 9, 0, impl.ErrState}, {"A", 0, 0, impl.ErrState}, {"A B", 25, 0, impl.ErrState}, {"A B", 26, 0, 0},
		{"A", 4001, 0, impl.ErrRange}, {"A", -1, 0, impl.ErrRange}, {"", -1, 0, impl.ErrRange}, {"", math.MinInt64, 0, impl.ErrRange}, {"", math.MaxInt64, 0, impl.ErrRange},
	} {
		ahead, code := impl.CentreLine(f, c.text, c.wide)
		is(t, "CentreLine "+c.text, []any{ahead, code}, []any{c.ahead, c.code})
	}
}

func TestP3JustifiedLines(t *testing.T) {
	f := plainFace()
	for _, c := range []struct {
		text   string
		wide   int64
		spaces []int64
		code   int64
	}{
		{"A B", 26, []int64{6}, 0}, {"A B", 27, []int64{7}, 0}, {"A B C", 42, []int64{6, 6}, 0}, {"A B C", 43, []int64{7, 6}, 0},
		{"A B C D", 58, []int64{6, 6, 6}, 0}, {"A B C D", 59, []int64{7, 6, 6}, 0}, {"A B C D", 60, []int64{7, 7, 6}, 0}, {"A B C D", 61, []int64{7, 7, 7}, 0},
		{"A B", 4000, []int64{3980}, 0},
		{"A B", 25, nil, impl.ErrState}, {"A", 10, nil, impl.ErrState}, {"A", 9, nil, impl.ErrState}, {"", 0, nil, impl.ErrState}, {"", 4000, nil, impl.ErrState},
		{"A", -1, nil, impl.ErrRange}, {"A B", 4001, nil, impl.ErrRange}, {"", math.MaxInt64, nil, impl.ErrRange}, {"A B", math.MinInt64, nil, impl.ErrRange},
	} {
		spaces, code := impl.JustifyLine(f, c.text, c.wide)
		is(t, "JustifyLine "+c.text, []any{spaces, code}, []any{c.spaces, c.code})
	}
}

func TestP3WordsThatFit(t *testing.T) {
	f := plainFace()
	for _, c := range []struct {
		text            string
		wide, fit, code int64
	}{
		{"", 0, 0, 0}, {"", 4000, 0, 0}, {"A B C", 0, 0, 0}, {"A B C", 9, 0, 0}, {"A B C", 10, 1, 0}, {"A B C", 16, 1, 0}, {"A B C", 25, 1, 0}, {"A B C", 26, 2, 0},
		{"A B C", 41, 2, 0}, {"A B C", 42, 3, 0}, {"A B C", 4000, 3, 0}, {"AA B", 21, 0, 0}, {"B AA C", 30, 1, 0},
		{"A", -1, 0, impl.ErrRange}, {"A", 4001, 0, impl.ErrRange}, {"", math.MinInt64, 0, impl.ErrRange}, {"", math.MaxInt64, 0, impl.ErrRange},
	} {
		fit, code := impl.LongestFit(f, c.text, c.wide)
		is(t, "LongestFit "+c.text, []any{fit, code}, []any{c.fit, c.code})
	}
}

func TestP3LettersAreCounted(t *testing.T) {
	counts, code := impl.CountLetters("")
	is(t, "CountLetters of the empty text", []any{counts, code}, []any{make([]int64, 26), 0})
	counts, code = impl.CountLetters("AZ BZ Z")
	want := make([]int64, 26)
	want[0], want[1], want[25] = 1, 1, 3
	is(t, "CountLetters", []any{counts, code}, []any{want, 0})
	counts, code = impl.CountLetters(strings.Repeat("Q", impl.MaxText))
	is(t, "CountLetters of a full text", []any{counts['Q'-'A'], code}, []any{60, 0})
	for _, text := range badTexts() {
		counts, code := impl.CountLetters(text)
		isCode(t, "CountLetters", code, impl.ErrInvalid, counts)
	}
}

func TestP2LoosenedFaces(t *testing.T) {
	f := unevenFace()
	for by := int64(-400); by <= 400; by++ {
		loose, code := impl.LoosenFace(f, by)
		if by < 0 || by > 7 { // "BA" has just 0, and Gap is 3
			isCode(t, "LoosenFace", code, impl.ErrState, loose)
			continue
		}
		want := f
		want.Gap += int8(by)
		if code != impl.OK || !equalFaces(loose, want) {
			t.Errorf("LoosenFace by %d: got %v and %d", by, loose, code)
		}
	}
	tight, code := impl.LoosenFace(plainFace(), -2)
	is(t, "LoosenFace without pairs", []any{tight.Gap, code}, []any{0, 0})
	tight, code = impl.LoosenFace(plainFace(), -3)
	isCode(t, "LoosenFace below 0", code, impl.ErrState, tight)
	far := []int64{math.MinInt64, math.MaxInt64, 1 << 32, -1 << 32, 1<<40 + 1, math.MaxInt64 - 2, math.MinInt64 + 256}
	for _, by := range far {
		loose, code := impl.LoosenFace(f, by)
		isCode(t, "LoosenFace far", code, impl.ErrState, loose)
		loose, code = impl.LoosenFace(impl.Face{}, by)
		isCode(t, "LoosenFace of no face", code, impl.ErrInvalid, loose)
	}
	all := plainFace()
	all.Gap = 10
	none, code := impl.LoosenFace(all, -10)
	is(t, "LoosenFace from the greatest gap to the least", []any{none.Gap, code}, []any{0, 0})
	all, code = impl.LoosenFace(none, 10)
	is(t, "LoosenFace from the least gap to the greatest", []any{all.Gap, code}, []any{10, 0})
}

// wides are the widths of the plain face in its text.
var wides = strings.TrimSuffix(strings.Repeat("10 ", 26), " ")

func TestP2TextsOfFaces(t *testing.T) {
	is(t, "no pairs", impl.FaceText(plainFace()), wides+";6;2;")
	is(t, "a pair", impl.FaceText(exampleFace()), wides+";6;2;AV-2")
	is(t, "pairs", impl.FaceText(plainFace(impl.Pair{A: 'A', B: 'V', By: 10}, impl.Pair{A: 'V', B: 'A', By: -1})), wides+";6;2;AV+10 VA-1")
	for name, f := range badFaces() {
		is(t, name, impl.FaceText(f), "")
	}
	for _, f := range []impl.Face{plainFace(), exampleFace(), unevenFace(), plainFace(manyPairs(impl.MaxPairs)...)} {
		read, code := impl.ReadFace(impl.FaceText(f))
		if code != impl.OK || !equalFaces(read, f) {
			t.Errorf("ReadFace: got %v and %d", read, code)
		}
	}
}

func TestP2TextsOfNoFaces(t *testing.T) {
	many := " AA+1"
	for _, p := range manyPairs(impl.MaxPairs) {
		many += " B" + string(rune(p.B)) + "+1"
	}
	bad := []string{
		"", ";", ";;;", "1 2;3;4;", wides, wides + ";6;2", wides + ";6;2;;", wides + ";6;2; ", wides + ";6;2;AV", wides + ";6;2;A+1", wides + ";6;2;A", wides + ";6;2;AV2",
		wides + ";6;2;AV+0", wides + ";6;2;AV-0", wides + ";6;2;AV+01", wides + ";6;2;AV--1", wides + ";6;2;AV+-1", wides + ";6;2;AV+11", wides + ";6;2;AV-3", wides + ";6;2;AV+257",
		wides + ";6;2;av+1", wides + ";6;2;AVE+1", wides + ";6;2;AV+1 AV+1", wides + ";6;2;VA+1 AV+1", wides + ";6;2;AV+1  VA+1", wides + ";6;2;AV+1 ", wides + ";6;2; AV+1", wides + ";6;2;AV+1;",
		wides + ";6;x;", wides + ";6;;", wides + ";;2;", wides + ";x;2;", wides + ";06;2;", wides + ";+6;2;", wides + ";6;02;", wides + ";6;-0;", wides + ";6;+2;", wides + ";6; 2;", wides + ";0;2;", wides + ";41;2;", wides + ";6;11;", wides + ";6;-1;", wides + ";262;2;",
		wides[3:] + ";6;2;", wides + " 10;6;2;", " " + wides + ";6;2;", wides + " ;6;2;", "0" + wides + ";6;2;", "+" + wides + ";6;2;", "0" + wides[2:] + ";6;2;", "41" + wides[2:] + ";6;2;", "x" + wides[2:] + ";6;2;", wides[:len(wides)-2] + "0;6;2;", wides[:len(wides)-2] + "41;6;2;", wides[:len(wides)-2] + "x;6;2;",
		strings.Replace(wides, " ", "  ", 1) + ";6;2;", strings.Replace(wides, " ", "\t", 1) + ";6;2;", wides + ";6;2;\n", "\n" + wides + ";6;2;", wides + ",6,2,", wides + ";6;2;" + many[1:], wides + ";6;2;" + many,
	}
	for _, text := range bad {
		f, code := impl.ReadFace(text)
		isCode(t, "ReadFace "+text, code, impl.ErrSyntax, f)
	}
	most := wides + ";6;2;" + many[len(" AA+1 "):]
	if f, code := impl.ReadFace(most); code != impl.OK || len(f.Pairs) != impl.MaxPairs {
		t.Errorf("ReadFace %s: got %v and %d", most, f, code)
	}
}
