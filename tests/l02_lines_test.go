package tests

import (
	"fmt"
	"math"
	"slices"
	"strings"
	"testing"

	"loop.example/g01398/impl"
)

// This file has the example of chapter 2, and what the document says of single inputs, one by one.

const exampleText = "AA BB CC D"

func exampleShorts() []impl.Short { return []impl.Short{{Long: "BB", Short: "B"}} }

// fullText has as many words as a text can have.
var fullText = strings.Repeat("A ", 29) + "A"

func TestP4Example(t *testing.T) {
	f := exampleFace()
	greedy, code := impl.GreedyBreaks(f, exampleText, 50)
	is(t, "GreedyBreaks", []any{greedy, code}, []any{[]int64{2}, 0})
	uneven, code := impl.UnevenOf(f, exampleText, 50, []int64{2})
	is(t, "UnevenOf", []any{uneven, code}, []any{0, 0})
	best, uneven, code := impl.BestBreaks(f, exampleText, 56)
	is(t, "BestBreaks", []any{best, uneven, code}, []any{[]int64{2}, 36, 0})
	uneven, code = impl.UnevenOf(f, exampleText, 56, []int64{1, 3})
	is(t, "UnevenOf", []any{uneven, code}, []any{1156 + 36, 0})
	wide, code := impl.LeastWide(f, exampleText, 2)
	is(t, "LeastWide", []any{wide, code}, []any{50, 0})
}

func TestP5Example(t *testing.T) {
	words, code := impl.FewestShorts(exampleFace(), "AA BB", exampleShorts(), 40)
	is(t, "FewestShorts", []any{words, code}, []any{[]int64{1}, 0})
	is(t, "ShortsText", impl.ShortsText(exampleShorts()), "BB=B")
	is(t, "MaxShorts", impl.MaxShorts, 6)
}

// isBroken looks at what all functions tell of a text in a width.
func isBroken(t *testing.T, text string, wide int64, greedy, best []int64, uneven, count int64) {
	t.Helper()
	f, name := plainFace(), fmt.Sprintf(" of %q in %d", text, wide)
	got, code := impl.GreedyBreaks(f, text, wide)
	is(t, "GreedyBreaks"+name, []any{got, code}, []any{greedy, 0})
	got, least, code := impl.BestBreaks(f, text, wide)
	is(t, "BestBreaks"+name, []any{got, least, code}, []any{best, uneven, 0})
	least, code = impl.UnevenOf(f, text, wide, best)
	is(t, "UnevenOf"+name, []any{least, code}, []any{uneven, 0})
	n, code := impl.CountBreaks(f, text, wide)
	is(t, "CountBreaks"+name, []any{n, code}, []any{count, 0})
	lines, code := impl.FewestLines(f, text, wide)
	is(t, "FewestLines"+name, []any{lines, code}, []any{len(greedy) + 1, 0})
	for _, breaks := range [][]int64{greedy, best} {
		right, code := impl.CheckBreaks(f, text, wide, breaks)
		is(t, "CheckBreaks"+name, []any{right, code}, []any{true, 0})
	}
}

func TestP4TextWithoutWordsIsOneLine(t *testing.T) {
	for _, wide := range []int64{0, 1, impl.MaxWide} {
		isBroken(t, "", wide, nil, nil, 0, 1)
		room, code := impl.RightRoom(plainFace(), "", wide, nil)
		is(t, "RightRoom", []any{room, code}, []any{[]int64{wide}, 0})
	}
	lines, code := impl.LinesOf("", nil)
	isTexts(t, "LinesOf", lines, code, []string{""})
	for _, lines := range []int64{1, 2, impl.MaxText} {
		wide, code := impl.LeastWide(plainFace(), "", lines)
		is(t, "LeastWide", []any{wide, code}, []any{0, 0})
	}
}

func TestP4SingleWords(t *testing.T) {
	isBroken(t, "AA", 22, nil, nil, 0, 1)
	isBroken(t, "AA", 4000, nil, nil, 0, 1)
	for _, lines := range []int64{1, 2, impl.MaxText} {
		wide, code := impl.LeastWide(plainFace(), "AA", lines)
		is(t, "LeastWide", []any{wide, code}, []any{22, 0})
	}
	room, code := impl.RightRoom(plainFace(), "AA", 30, nil)
	is(t, "RightRoom", []any{room, code}, []any{[]int64{8}, 0})
	lines, code := impl.LinesOf("AA", nil)
	isTexts(t, "LinesOf", lines, code, []string{"AA"})
}

func TestP4WordsAsWideAsTheWidth(t *testing.T) {
	isBroken(t, "AA BB", 22, []int64{1}, []int64{1}, 0, 1)
	isBroken(t, "A BB C", 22, []int64{1, 2}, []int64{1, 2}, 144, 1)
	isBroken(t, "AA B CC", 22, []int64{1, 2}, []int64{1, 2}, 144, 1)
	isBroken(t, "A B", 26, nil, nil, 0, 2)
	isBroken(t, "A B", 25, []int64{1}, []int64{1}, 225, 1)
}

func TestP4WordsWiderThanTheWidth(t *testing.T) {
	f := plainFace()
	for _, text := range []string{"AA", "AA B C", "B AA C", "B C AA", "AA AA"} {
		for _, wide := range []int64{0, 9, 21} {
			name := fmt.Sprintf(" of %q in %d", text, wide)
			greedy, code := impl.GreedyBreaks(f, text, wide)
			isCode(t, "GreedyBreaks"+name, code, impl.ErrNotFound, greedy)
			best, uneven, code := impl.BestBreaks(f, text, wide)
			isCode(t, "BestBreaks"+name, code, impl.ErrNotFound, best, uneven)
			lines, code := impl.FewestLines(f, text, wide)
			isCode(t, "FewestLines"+name, code, impl.ErrNotFound, lines)
			count, code := impl.CountBreaks(f, text, wide)
			is(t, "CountBreaks"+name, []any{count, code}, []any{0, 0})
			for _, breaks := range allBreaks(len(strings.Fields(text))) {
				right, code := impl.CheckBreaks(f, text, wide, breaks)
				is(t, "CheckBreaks"+name, []any{right, code}, []any{false, 0})
			}
		}
	}
}

func TestP4OfSeveralBestBreaksTheFirstList(t *testing.T) {
	// The lines 1 + 2 and 2 + 1 are as uneven, and greedy breaks are the other ones.
	isBroken(t, "A A A BBB", 34, []int64{2, 3}, []int64{1, 3}, 576+64, 3)
	// "A" can be in any of the first three lines alone.
	isBroken(t, "A A A A A BBB", 34, []int64{2, 4, 5}, []int64{1, 3, 5}, 576+64+64, 8)
	// A narrow word goes to the one ahead of it or to the one behind it.
	isBroken(t, "AA A AA BBBBB", 58, []int64{2, 3}, []int64{1, 3}, 1296+400, 3)
}

func TestP4TheLastLineCountsNothing(t *testing.T) {
	f := plainFace()
	isBroken(t, "AAA A", 46, []int64{1}, []int64{1}, 144, 1)
	isBroken(t, "AAA A", 50, nil, nil, 0, 2)
	// If the last line counted, "A | B C" (256 + 0) would be as good as "A B | C" (0 + 256), and come first.
	isBroken(t, "A B C", 26, []int64{2}, []int64{2}, 0, 3)
	// If it counted, 1 would be better: 900 + 196 against 4 + 1764.
	isBroken(t, "AA AA A", 52, []int64{2}, []int64{2}, 4, 3)
	uneven, code := impl.UnevenOf(f, "AA AA A", 52, []int64{1})
	is(t, "UnevenOf", []any{uneven, code}, []any{900, 0})
	// It counts nothing, but it has to fit.
	for _, c := range []struct {
		text   string
		breaks []int64
	}{{"A BB", []int64{1}}, {"A B B", []int64{1}}, {"BB", nil}, {"A B", nil}} {
		right, code := impl.CheckBreaks(f, c.text, 21, c.breaks)
		is(t, "CheckBreaks "+c.text, []any{right, code}, []any{false, 0})
		uneven, code := impl.UnevenOf(f, c.text, 21, c.breaks)
		isCode(t, "UnevenOf "+c.text, code, impl.ErrState, uneven)
		room, code := impl.RightRoom(f, c.text, 21, c.breaks)
		isCode(t, "RightRoom "+c.text, code, impl.ErrState, room)
	}
}

func TestP4RoomIsToldOfTheLastLineToo(t *testing.T) {
	f := exampleFace()
	for _, c := range []struct {
		wide   int64
		breaks []int64
		room   []int64
	}{{56, []int64{2}, []int64{6, 18}}, {56, []int64{1, 3}, []int64{34, 6, 46}}, {50, []int64{2}, []int64{0, 12}}, {94, nil, []int64{0}}, {22, []int64{1, 2, 3}, []int64{0, 0, 0, 12}}, {4000, []int64{3}, []int64{3922, 3990}}} {
		room, code := impl.RightRoom(f, exampleText, c.wide, c.breaks)
		is(t, "RightRoom", []any{room, code}, []any{c.room, 0})
	}
}

func TestP4LinesAsTexts(t *testing.T) {
	for _, c := range []struct {
		breaks []int64
		lines  []string
	}{{nil, []string{"AA BB CC D"}}, {[]int64{}, []string{"AA BB CC D"}}, {[]int64{1}, []string{"AA", "BB CC D"}}, {[]int64{3}, []string{"AA BB CC", "D"}}, {[]int64{1, 3}, []string{"AA", "BB CC", "D"}}, {[]int64{1, 2, 3}, []string{"AA", "BB", "CC", "D"}}} {
		lines, code := impl.LinesOf(exampleText, c.breaks)
		isTexts(t, "LinesOf", lines, code, c.lines)
	}
}

func TestP4BreaksThatAreNotAsTold(t *testing.T) {
	f := plainFace()
	bad := map[string][][]int64{
		exampleText: {{0}, {-1}, {4}, {5}, {0, 2}, {1, 1}, {2, 1}, {1, 3, 2}, {1, 2, 2}, {1, 4}, {1, 2, 3, 4}, {1, 2, 3, 3}, {-1, 2}, {math.MaxInt64}, {math.MinInt64}, {1 << 32}, {1<<32 + 1}, {2, math.MinInt64}, {1, 2, 3, math.MaxInt64}},
		"A":         {{0}, {1}, {-1}, {2}},
		"":          {{0}, {1}, {-1}, {2}},
	}
	for text, lists := range bad {
		for _, breaks := range lists {
			name := fmt.Sprintf(" of %q at %d", text, breaks)
			right, code := impl.CheckBreaks(f, text, 4000, breaks)
			is(t, "CheckBreaks"+name, []any{right, code}, []any{false, 0})
			lines, code := impl.LinesOf(text, breaks)
			isCode(t, "LinesOf"+name, code, impl.ErrState, lines)
			uneven, code := impl.UnevenOf(f, text, 4000, breaks)
			isCode(t, "UnevenOf"+name, code, impl.ErrState, uneven)
			room, code := impl.RightRoom(f, text, 4000, breaks)
			isCode(t, "RightRoom"+name, code, impl.ErrState, room)
		}
	}
}

func TestP4FullTexts(t *testing.T) {
	f := plainFace()
	isBroken(t, fullText, 30*10+29*6, nil, nil, 0, 1<<29)
	isBroken(t, fullText, impl.MaxWide, nil, nil, 0, 1<<29)
	each := make([]int64, 29)
	for i := range each {
		each[i] = int64(i + 1)
	}
	isBroken(t, fullText, 10, each, each, 0, 1)
	// 26 fits two words, so that the ways to break are a Fibonacci number.
	pairs := []int64{2, 4, 6, 8, 10, 12, 14, 16, 18, 20, 22, 24, 26, 28}
	isBroken(t, fullText, 26, pairs, pairs, 0, 1346269)
	uneven, code := impl.UnevenOf(f, fullText, impl.MaxWide, each)
	is(t, "UnevenOf the most lines", []any{uneven, code}, []any{29 * 3990 * 3990, 0})
}

func TestP4LeastWidths(t *testing.T) {
	f := exampleFace()
	for _, c := range []struct{ lines, wide int64 }{{1, 94}, {2, 50}, {3, 38}, {4, 22}, {5, 22}, {60, 22}} {
		wide, code := impl.LeastWide(f, exampleText, c.lines)
		is(t, "LeastWide", []any{wide, code}, []any{c.wide, 0})
	}
	for _, lines := range []int64{0, -1, impl.MaxText + 1, 1 << 32, math.MaxInt64, math.MinInt64} {
		for _, text := range []string{exampleText, ""} {
			wide, code := impl.LeastWide(f, text, lines)
			isCode(t, "LeastWide", code, impl.ErrRange, wide)
		}
	}
	broad := impl.Face{Space: 40, Gap: 10, Pairs: []impl.Pair{{A: 'A', B: 'A', By: 10}}}
	for i := range broad.Wide {
		broad.Wide[i] = 40
	}
	wide, code := impl.LeastWide(broad, strings.Repeat("A", 60), 1)
	is(t, "LeastWide of the widest text", []any{wide, code}, []any{3580, 0})
}

func TestP4WidthsOutOfRange(t *testing.T) {
	f := plainFace()
	for _, wide := range []int64{-1, impl.MaxWide + 1, math.MinInt64, math.MaxInt64, 1 << 32} {
		for _, text := range []string{"", "AA", exampleText} {
			for _, breaks := range [][]int64{nil, {1}, {0}} {
				for _, c := range lineCalls() {
					if slices.Contains(linesWithWide, c.name) {
						isError(t, text, c, lineArgs{f, text, wide, breaks, nil}, impl.ErrRange)
					}
				}
			}
		}
	}
}

// badShorts are not valid, each ones for another reason.
func badShorts() map[string][]impl.Short {
	bad := map[string][]impl.Short{}
	for name, s := range map[string]impl.Short{
		"empty":              {},
		"no short":           {Long: "AA"},
		"no long":            {Short: "A"},
		"as long":            {Long: "A", Short: "A"},
		"as long, different": {Long: "AB", Short: "CD"},
		"longer":             {Long: "AB", Short: "ABC"},
		"long too long":      {Long: strings.Repeat("A", 21), Short: "A"},
		"both too long":      {Long: strings.Repeat("A", 22), Short: strings.Repeat("A", 21)},
		"long of two words":  {Long: "A B", Short: "A"},
		"short of two words": {Long: "ABCD", Short: "A B"},
		"long with blank":    {Long: "AA ", Short: "A"},
		"short with blank":   {Long: "AA", Short: " "},
		"small long":         {Long: "aa", Short: "A"},
		"small short":        {Long: "AA", Short: "a"},
		"sign in long":       {Long: "AA=", Short: "A"},
		"sign in short":      {Long: "AA", Short: "="},
		"newline":            {Long: "AAA", Short: "A\n"},
		"no letters":         {Long: "\xc1\xc1", Short: "\xc1"},
	} {
		bad[name] = []impl.Short{s}
		bad[name+", behind another"] = append(exampleShorts()[:0:0], impl.Short{Long: "AA", Short: "A"}, s)
	}
	bad["one twice"] = append(exampleShorts(), exampleShorts()...)
	bad["a long twice"] = []impl.Short{{Long: "BBB", Short: "A"}, {Long: "BBB", Short: "B"}}
	bad["falling"] = []impl.Short{{Long: "BB", Short: "A"}, {Long: "AA", Short: "B"}}
	bad["falling at last"] = []impl.Short{{Long: "AA", Short: "A"}, {Long: "CC", Short: "C"}, {Long: "BB", Short: "B"}}
	bad["shorter one behind"] = []impl.Short{{Long: "AAA", Short: "A"}, {Long: "AA", Short: "A"}}
	bad["too many"] = append(manyShorts(6), impl.Short{Long: "ZZ", Short: "Z"})
	return bad
}

// manyShorts are n valid shorts, which all have the same Short.
func manyShorts(n int) []impl.Short {
	var list []impl.Short
	for k := range n {
		list = append(list, impl.Short{Long: "B" + string(rune('A'+k)), Short: "B"})
	}
	return list
}

// longestShort is as long as a short can be.
var longestShort = impl.Short{Long: strings.Repeat("A", 20), Short: strings.Repeat("A", 19)}

func goodShorts() [][]impl.Short {
	return [][]impl.Short{
		nil, {}, exampleShorts(), manyShorts(6), {longestShort}, {{Long: "AZ", Short: "Z"}}, {{Long: "AA", Short: "B"}, {Long: "AAA", Short: "AA"}, {Long: "AB", Short: "A"}},
	}
}

func TestP5ValidShortsAtTheirLimits(t *testing.T) {
	for _, list := range goodShorts() {
		if !impl.ValidShorts(list) {
			t.Errorf("not valid: %v", list)
		}
	}
	for name, list := range badShorts() {
		if impl.ValidShorts(list) {
			t.Errorf("valid: %s", name)
		}
	}
}

func TestP5ShortenedWords(t *testing.T) {
	chain := []impl.Short{{Long: "AAA", Short: "BB"}, {Long: "BB", Short: "C"}}
	for _, c := range []struct {
		text  string
		list  []impl.Short
		words []int64
		want  string
		code  int64
	}{
		{"AA BB BB", exampleShorts(), []int64{2}, "AA BB B", 0},
		{"AA BB BB", exampleShorts(), []int64{1}, "AA B BB", 0},
		{"AA BB BB", exampleShorts(), []int64{2, 1}, "AA B B", 0},
		{"AA BB BB", exampleShorts(), nil, "AA BB BB", 0},
		{"", exampleShorts(), nil, "", 0},
		{"", nil, nil, "", 0},
		{"AA", nil, nil, "AA", 0},
		{"AAA BB", chain, []int64{0}, "BB BB", 0},
		{"AAA BB", chain, []int64{1, 0}, "BB C", 0},
		{longestShort.Long, []impl.Short{longestShort}, []int64{0}, longestShort.Short, 0},
		{"", exampleShorts(), []int64{0}, "", impl.ErrRange},
		{"AA BB", exampleShorts(), []int64{2}, "", impl.ErrRange},
		{"AA BB", exampleShorts(), []int64{-1}, "", impl.ErrRange},
		{"AA BB", exampleShorts(), []int64{1, math.MaxInt64}, "", impl.ErrRange},
		{"AA BB", exampleShorts(), []int64{1, math.MinInt64}, "", impl.ErrRange},
		{"AA BB", exampleShorts(), []int64{1<<32 + 1}, "", impl.ErrRange},
		{"AA BB", exampleShorts(), []int64{1, 1}, "", impl.ErrState},
		{"BB BB BB", exampleShorts(), []int64{2, 0, 1, 2}, "", impl.ErrState},
		{"AA BB", exampleShorts(), []int64{0}, "", impl.ErrNotFound},
		{"B BB", exampleShorts(), []int64{1, 0}, "", impl.ErrNotFound},
		{"BBB", exampleShorts(), []int64{0}, "", impl.ErrNotFound},
		{"BB", nil, []int64{0}, "", impl.ErrNotFound},
		// Each error is looked for in all indices before the next one.
		{"AA BB", exampleShorts(), []int64{0, 0, 2}, "", impl.ErrRange},
		{"AA BB", exampleShorts(), []int64{1, 1, -1}, "", impl.ErrRange},
		{"AA BB", exampleShorts(), []int64{0, 2}, "", impl.ErrRange},
		{"AA BB", exampleShorts(), []int64{0, 1, 1}, "", impl.ErrState},
		{"AA BB", exampleShorts(), []int64{0, 0}, "", impl.ErrState},
	} {
		text, code := impl.ShortenAt(c.text, c.list, c.words)
		is(t, fmt.Sprintf("ShortenAt %q %v %d", c.text, c.list, c.words), []any{text, code}, []any{c.want, c.code})
	}
}

func TestP5AllWordsShortened(t *testing.T) {
	chain := []impl.Short{{Long: "AAA", Short: "BB"}, {Long: "BB", Short: "C"}}
	for _, c := range []struct {
		text string
		list []impl.Short
		want string
		n    int64
	}{
		{"AA BB BB", exampleShorts(), "AA B B", 2}, {"AA", exampleShorts(), "AA", 0}, {"", exampleShorts(), "", 0}, {"", nil, "", 0}, {"BB", nil, "BB", 0},
		{"AAA BB C", chain, "BB C C", 2}, {"BA BF BG", manyShorts(6), "B B BG", 2}, {"B BBB BB", exampleShorts(), "B BBB B", 1},
		{strings.Repeat("BB ", 19) + "BBB", exampleShorts(), strings.Repeat("B ", 19) + "BBB", 19},
	} {
		text, n, code := impl.ShortenAll(c.text, c.list)
		is(t, "ShortenAll "+c.text, []any{text, n, code}, []any{c.want, c.n, 0})
	}
}

func TestP5FewestShorts(t *testing.T) {
	// "Z" is wider than "AA", which is 1 + 3 + 1 wide; "B" is narrower than "BB" by 4, and "C" than "CC" by 6.
	odd := []impl.Short{{Long: "AA", Short: "Z"}, {Long: "BB", Short: "B"}, {Long: "CC", Short: "C"}}
	for _, c := range []struct {
		face  impl.Face
		text  string
		list  []impl.Short
		wide  int64
		words []int64
		code  int64
	}{
		{plainFace(), "", nil, 0, nil, 0},
		{plainFace(), "", exampleShorts(), 0, nil, 0},
		{plainFace(), "AA", nil, 22, nil, 0},
		{plainFace(), "AA", nil, 21, nil, impl.ErrNotFound},
		{plainFace(), "AA BB", exampleShorts(), 50, nil, 0},
		{plainFace(), "AA BB", exampleShorts(), 49, []int64{1}, 0},
		{plainFace(), "AA BB", exampleShorts(), 38, []int64{1}, 0},
		{plainFace(), "AA BB", exampleShorts(), 37, nil, impl.ErrNotFound},
		{plainFace(), "BB BB BB", exampleShorts(), 78, nil, 0},
		{plainFace(), "BB BB BB", exampleShorts(), 77, []int64{0}, 0},
		{plainFace(), "BB BB BB", exampleShorts(), 65, []int64{0, 1}, 0},
		{plainFace(), "BB BB BB", exampleShorts(), 42, []int64{0, 1, 2}, 0},
		{plainFace(), "BB BB BB", exampleShorts(), 41, nil, impl.ErrNotFound},
		{plainFace(), "BB BB BB", exampleShorts(), 0, nil, impl.ErrNotFound},
		{unevenFace(), "AA BB", odd, 18, nil, 0},
		{unevenFace(), "AA BB", odd, 17, []int64{1}, 0},
		{unevenFace(), "AA BB", odd, 14, []int64{1}, 0},
		{unevenFace(), "AA BB", odd, 13, nil, impl.ErrNotFound},
		// One word that gets much narrower is fewer than two that get a little narrower, though it comes later.
		{unevenFace(), "BB BB CC", odd, 6 + 7 + 6 + 7 + 9 - 5, []int64{2}, 0},
		{unevenFace(), "BB BB CC", odd, 6 + 7 + 6 + 7 + 9 - 4, []int64{0}, 0},
		{unevenFace(), "BB BB CC", odd, 6 + 7 + 6 + 7 + 9 - 9, []int64{0, 2}, 0},
	} {
		words, code := impl.FewestShorts(c.face, c.text, c.list, c.wide)
		is(t, fmt.Sprintf("FewestShorts %q %v in %d", c.text, c.list, c.wide), []any{words, code}, []any{c.words, c.code})
	}
}

func TestP5OfSeveralFewestShortsTheFirstList(t *testing.T) {
	// Without gaps "AB=B" saves 1, "EE=E" 5 and "II=I" 9, so that the first and the last word save as much as those between them.
	f := unevenFace()
	f.Gap, f.Pairs = 0, nil
	list := []impl.Short{{Long: "AB", Short: "B"}, {Long: "EE", Short: "E"}, {Long: "II", Short: "I"}}
	for _, c := range []struct {
		saved int64
		words []int64
	}{{0, nil}, {1, []int64{0}}, {2, []int64{1}}, {5, []int64{1}}, {6, []int64{3}}, {9, []int64{3}}, {10, []int64{0, 3}}, {11, []int64{1, 3}}, {15, []int64{0, 1, 3}}, {16, []int64{1, 2, 3}}, {20, []int64{0, 1, 2, 3}}} {
		words, code := impl.FewestShorts(f, "AB EE EE II", list, 62-c.saved)
		is(t, fmt.Sprintf("FewestShorts with %d saved", c.saved), []any{words, code}, []any{c.words, 0})
	}
}

func TestP5AsManyShortsAsMaxShorts(t *testing.T) {
	list := manyShorts(impl.MaxShorts)
	words, code := impl.FewestShorts(plainFace(), "BA BB BC BD BE BF", list, 6*10+5*6)
	is(t, "FewestShorts", []any{words, code}, []any{[]int64{0, 1, 2, 3, 4, 5}, 0})
	texts, code := impl.LengthenAll("A B", list)
	isTexts(t, "LengthenAll", texts, code, []string{"A B", "A BA", "A BB", "A BC", "A BD", "A BE", "A BF"})
	is(t, "ShortsText", impl.ShortsText(list), "BA=B BB=B BC=B BD=B BE=B BF=B")
}

func TestP5UpToTenWordsThatHaveShorts(t *testing.T) {
	f, ten := plainFace(), strings.Repeat("BB ", 9)+"BB"
	most := int64(10*10 + 9*6)
	words, code := impl.FewestShorts(f, ten, exampleShorts(), most)
	is(t, "all of ten", []any{words, code}, []any{[]int64{0, 1, 2, 3, 4, 5, 6, 7, 8, 9}, 0})
	words, code = impl.FewestShorts(f, ten, exampleShorts(), most+12)
	is(t, "nine of ten", []any{words, code}, []any{[]int64{0, 1, 2, 3, 4, 5, 6, 7, 8}, 0})
	words, code = impl.FewestShorts(f, ten, exampleShorts(), most-1)
	isCode(t, "none with ten", code, impl.ErrNotFound, words)
	words, code = impl.FewestShorts(f, "A A "+ten+" A", exampleShorts(), 13*10+12*6)
	is(t, "ten of more", []any{words, code}, []any{[]int64{2, 3, 4, 5, 6, 7, 8, 9, 10, 11}, 0})
	for _, wide := range []int64{0, 100, impl.MaxWide} {
		words, code = impl.FewestShorts(f, ten+" BB", exampleShorts(), wide)
		isCode(t, "eleven", code, impl.ErrLimit, words)
	}
	words, code = impl.FewestShorts(f, ten+" BB", exampleShorts(), impl.MaxWide+1)
	isCode(t, "eleven in too wide a line", code, impl.ErrRange, words)
	words, code = impl.FewestShorts(f, ten+" BB", nil, impl.MaxWide)
	is(t, "eleven words without shorts", []any{words, code}, []any{[]int64{}, 0})
}

func TestP5TextsThatMayHaveBeen(t *testing.T) {
	chain := []impl.Short{{Long: "AAA", Short: "BB"}, {Long: "BB", Short: "C"}}
	for _, c := range []struct {
		text string
		list []impl.Short
		want []string
	}{
		{"", nil, []string{""}},
		{"", exampleShorts(), []string{""}},
		{"A", nil, []string{"A"}},
		{"A", exampleShorts(), []string{"A"}},
		{"BB", exampleShorts(), []string{"BB"}},
		{"B A", exampleShorts(), []string{"B A", "BB A"}},
		{"A B", exampleShorts(), []string{"A B", "A BB"}},
		{"B B", exampleShorts(), []string{"B B", "B BB", "BB B", "BB BB"}},
		// "AA" comes ahead of "B", and "C" stands for "BB", but not for "AAA" over it.
		{"B", []impl.Short{{Long: "AA", Short: "B"}, {Long: "CC", Short: "B"}}, []string{"AA", "B", "CC"}},
		{"C BB", chain, []string{"BB AAA", "BB BB", "C AAA", "C BB"}},
		{"AAA", chain, []string{"AAA"}},
	} {
		texts, code := impl.LengthenAll(c.text, c.list)
		isTexts(t, "LengthenAll "+c.text, texts, code, c.want)
	}
}

func TestP5TextsThatWouldBeTooLong(t *testing.T) {
	long := strings.Repeat("A", 20)
	list := []impl.Short{{Long: long, Short: "B"}}
	behind := " " + strings.Repeat("X", 18)
	texts, code := impl.LengthenAll("B B"+behind, list)
	isTexts(t, "just as long", texts, code, []string{long + " " + long + behind, long + " B" + behind, "B " + long + behind, "B B" + behind})
	texts, code = impl.LengthenAll("B B"+behind+"X", list)
	isTexts(t, "too long", texts, code, []string{long + " B" + behind + "X", "B " + long + behind + "X", "B B" + behind + "X"})
	full := "B" + strings.Repeat(" XX", 19) + " X"
	texts, code = impl.LengthenAll(full[:60], list)
	isTexts(t, "all others too long", texts, code, []string{full[:60]})
	// Ways to choose are counted with those that are too long.
	texts, code = impl.LengthenAll(strings.Repeat("B ", 6)+"B", list)
	is(t, "many too long", []any{len(texts), code}, []any{1 + 7 + 21, 0})
	texts, code = impl.LengthenAll(strings.Repeat("B ", 7)+"B", list)
	isCode(t, "too many, most of them too long", code, impl.ErrLimit, texts)
}

func TestP5WaysToChoose(t *testing.T) {
	five := append(manyShorts(4), impl.Short{Long: "CC", Short: "C"})
	for _, text := range []string{"B B C C C", "C B C A B C"} {
		texts, code := impl.LengthenAll(text, five)
		is(t, "just 200 ways", []any{len(texts), code}, []any{200, 0})
		if !slices.IsSorted(texts) || len(slices.Compact(texts)) != 200 {
			t.Errorf("%q has texts out of order, or twice", text)
		}
	}
	for _, c := range []struct {
		text string
		list []impl.Short
	}{{"B B B", manyShorts(5)}, {"B C B C B C C C", five}, {"B B B B B B B B", exampleShorts()}, {strings.Repeat("B ", 29) + "B", manyShorts(6)}, {"A B B B", manyShorts(6)}} {
		texts, code := impl.LengthenAll(c.text, c.list)
		isCode(t, "LengthenAll "+c.text, code, impl.ErrLimit, texts)
	}
}

func TestP5TextsOfShorts(t *testing.T) {
	is(t, "none", impl.ShortsText(nil), "")
	is(t, "one", impl.ShortsText(exampleShorts()), "BB=B")
	is(t, "more", impl.ShortsText([]impl.Short{{Long: "AA", Short: "Z"}, {Long: "ABC", Short: "DE"}}), "AA=Z ABC=DE")
	for name, list := range badShorts() {
		is(t, name, impl.ShortsText(list), "")
	}
	for _, list := range goodShorts() {
		read, code := impl.ReadShorts(impl.ShortsText(list))
		is(t, "ReadShorts", []any{len(read), read, code}, []any{len(list), list, 0})
	}
}

func TestP5TextsOfNoShorts(t *testing.T) {
	bad := []string{
		" ", "=", "BB", "BB=", "=B", "B=B", "BB=BB", "B=BB", "BB==B", "BB=B=", "=BB=B", "BBB=B=A", "BB =B", "BB= B", "BB= =B", "bb=b", "BB=b", "bB=B", "BB-B", "BB=B;", "BB=B\n", "\nBB=B", "BB=B\tCC=C",
		" BB=B", "BB=B ", "BB=B  CC=C", "BB=B,CC=C", "CC=C BB=B", "BB=B BB=B", "BB=B BB=A", "BB=B CC", "BB=B =C", "BBB=B BB=B", "\xc1\xc1=\xc1",
		strings.Repeat("A", 21) + "=A", "BA=B BB=B BC=B BD=B BE=B BF=B BG=B", "BA=B BB=B BC=B BD=B BE=B BF=B ", "BA=B BB=B BC=B BD=B BE=B BF=B B",
	}
	for _, text := range bad {
		list, code := impl.ReadShorts(text)
		isCode(t, "ReadShorts "+text, code, impl.ErrSyntax, list)
	}
	for name, list := range badShorts() {
		var parts []string
		for _, s := range list {
			parts = append(parts, s.Long+"="+s.Short)
		}
		read, code := impl.ReadShorts(strings.Join(parts, " "))
		isCode(t, "ReadShorts "+name, code, impl.ErrSyntax, read)
	}
}
