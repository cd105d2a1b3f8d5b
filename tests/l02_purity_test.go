package tests

import (
	"math"
	"slices"
	"strings"
	"testing"

	"loop.example/g01398/impl"
)

// This file holds all functions of chapter 2 to promise 1, with the conventions behind it: each call gets the same arguments.

type lineArgs struct {
	face    impl.Face
	text    string
	num     int64
	indices []int64
	shorts  []impl.Short
}

func lineCalls() []call[lineArgs] {
	two := func(a any, code int64) []any { return []any{a, code} }
	return []call[lineArgs]{
		{"GreedyBreaks", func(a lineArgs) []any { r, c := impl.GreedyBreaks(a.face, a.text, a.num); return two(r, c) }, true},
		{"BestBreaks", func(a lineArgs) []any { b, u, c := impl.BestBreaks(a.face, a.text, a.num); return []any{b, u, c} }, true},
		{"UnevenOf", func(a lineArgs) []any { r, c := impl.UnevenOf(a.face, a.text, a.num, a.indices); return two(r, c) }, true},
		{"CheckBreaks", func(a lineArgs) []any { r, c := impl.CheckBreaks(a.face, a.text, a.num, a.indices); return two(r, c) }, true},
		{"LinesOf", func(a lineArgs) []any { r, c := impl.LinesOf(a.text, a.indices); return two(r, c) }, true},
		{"CountBreaks", func(a lineArgs) []any { r, c := impl.CountBreaks(a.face, a.text, a.num); return two(r, c) }, true},
		{"FewestLines", func(a lineArgs) []any { r, c := impl.FewestLines(a.face, a.text, a.num); return two(r, c) }, true},
		{"LeastWide", func(a lineArgs) []any { r, c := impl.LeastWide(a.face, a.text, a.num); return two(r, c) }, true},
		{"RightRoom", func(a lineArgs) []any { r, c := impl.RightRoom(a.face, a.text, a.num, a.indices); return two(r, c) }, true},
		{"ValidShorts", func(a lineArgs) []any { return []any{impl.ValidShorts(a.shorts)} }, false},
		{"ShortenAt", func(a lineArgs) []any { r, c := impl.ShortenAt(a.text, a.shorts, a.indices); return two(r, c) }, true},
		{"ShortenAll", func(a lineArgs) []any { r, n, c := impl.ShortenAll(a.text, a.shorts); return []any{r, n, c} }, true},
		{"FewestShorts", func(a lineArgs) []any { r, c := impl.FewestShorts(a.face, a.text, a.shorts, a.num); return two(r, c) }, true},
		{"LengthenAll", func(a lineArgs) []any { r, c := impl.LengthenAll(a.text, a.shorts); return two(r, c) }, true},
		{"ShortsText", func(a lineArgs) []any { return []any{impl.ShortsText(a.shorts)} }, false},
		{"ReadShorts", func(a lineArgs) []any { r, c := impl.ReadShorts(a.text); return two(r, c) }, true},
	}
}

// The functions that take a face, a text, shorts, and a width.
var (
	linesWithFace   = []string{"GreedyBreaks", "BestBreaks", "UnevenOf", "CheckBreaks", "CountBreaks", "FewestLines", "LeastWide", "RightRoom", "FewestShorts"}
	linesWithText   = append([]string{"LinesOf", "ShortenAt", "ShortenAll", "LengthenAll"}, linesWithFace...)
	linesWithShorts = []string{"ShortenAt", "ShortenAll", "FewestShorts", "LengthenAll"}
	linesWithWide   = []string{"GreedyBreaks", "BestBreaks", "UnevenOf", "CheckBreaks", "CountBreaks", "FewestLines", "RightRoom", "FewestShorts"}
)

func lineIndices() [][]int64 {
	return [][]int64{nil, {1}, {2}, {1, 2}, {1, 2, 3}, {0}, {2, 1}, {1, 1}, {-1}, {math.MaxInt64, math.MinInt64}, slices.Repeat([]int64{1}, 1000)}
}

// lineCases are ordinary arguments, each with all others, and others of all kinds.
func lineCases() []lineArgs {
	faces := []impl.Face{exampleFace(), unevenFace(), plainFace(manyPairs(impl.MaxPairs)...)}
	texts := []string{"", "A", "AA BB CC D", "BB BB BB BB", "B AA B", "AA BB=B", impl.ShortsText(manyShorts(6)), strings.Repeat("A", impl.MaxText), fullText}
	shorts := [][]impl.Short{nil, exampleShorts(), manyShorts(6), {{Long: "AA", Short: "A"}, {Long: "BB", Short: "AA"}}}
	numbers := []int64{0, 1, 22, 50, 56, impl.MaxWide, impl.MaxWide + 1, -1, math.MaxInt64, math.MinInt64}
	var cases []lineArgs
	for i, f := range faces {
		for j, text := range texts {
			for k, indices := range lineIndices() {
				for l, list := range shorts {
					cases = append(cases, lineArgs{f, text, numbers[(i+j+k+l)%len(numbers)], indices, list}, lineArgs{f, text, numbers[l], indices, list})
				}
			}
		}
	}
	for _, f := range badFaces() {
		cases = append(cases, lineArgs{f, "AA BB", 50, []int64{1}, exampleShorts()})
	}
	for _, text := range badTexts() {
		cases = append(cases, lineArgs{exampleFace(), text, 50, []int64{1}, exampleShorts()})
	}
	for _, list := range badShorts() {
		cases = append(cases, lineArgs{exampleFace(), "AA BB", 50, []int64{1}, list})
	}
	return cases
}

func TestP1LinesReturnForAllArguments(t *testing.T) {
	for _, a := range lineCases() {
		for _, c := range lineCalls() {
			isCall(t, c, a)
		}
	}
}

func TestP1LinesReturnForGreatArguments(t *testing.T) {
	const great = 1_000_000
	f := plainFace()
	f.Pairs = make([]impl.Pair, great)
	word := strings.Repeat("A", great)
	rising := make([]int64, great)
	for i := range rising {
		rising[i] = int64(i + 1)
	}
	shorts := [][]impl.Short{make([]impl.Short, great), slices.Repeat(exampleShorts(), great), {{Long: word, Short: "A"}}, {{Long: "AA", Short: word}}, {{Long: word + "A", Short: word}}}
	texts := []string{word, strings.Repeat(" ", great), strings.Repeat("=", great), strings.Repeat("AA=A ", great/5), strings.Repeat("A ", great/2) + "A", word + "=A"}
	indices := [][]int64{make([]int64, great), rising, slices.Repeat([]int64{-1}, great), slices.Repeat([]int64{1}, great)}
	for i, text := range texts {
		a := lineArgs{f, text, math.MaxInt64, indices[i%len(indices)], shorts[i%len(shorts)]}
		b := lineArgs{exampleFace(), "AA BB", 50, indices[i%len(indices)], shorts[i%len(shorts)]}
		for _, c := range lineCalls() {
			results := c.run(a)
			if c.code && results[len(results)-1] == int64(impl.OK) {
				t.Errorf("%s takes great arguments", c.name)
			}
			isCall(t, c, b)
			b.shorts = exampleShorts()
			isCall(t, c, b)
		}
	}
}

func TestP1LinesOfEqualArgumentsAreEqual(t *testing.T) {
	haveEqualResults(t, lineCases(), lineCalls(), func(a lineArgs) lineArgs {
		a.face.Pairs, a.indices, a.shorts = elsewhere(a.face.Pairs), elsewhere(a.indices), elsewhere(a.shorts)
		a.text = strings.Clone(a.text)
		return a
	})
}

func guardLines(a lineArgs) (lineArgs, func() bool) {
	pairs := guard(&a.face.Pairs, impl.Pair{A: 'X', B: 'Y', By: 9})
	indices := guard(&a.indices, 3)
	shorts := guard(&a.shorts, impl.Short{Long: "SPARE", Short: "S"})
	return a, func() bool { return pairs() && indices() && shorts() }
}

func TestP1LinesDoNotModifyArguments(t *testing.T) {
	doNotModify(t, lineCases(), lineCalls(), guardLines)
}

func TestP1LinesShareNoMemory(t *testing.T) {
	shareNoMemory(t, lineCases(), lineCalls(), guardLines)
}

func TestP1InvalidArgumentsOfLinesComeFirst(t *testing.T) {
	// Everything else is wrong too, or nothing else is, or only a limit is passed.
	many := lineArgs{exampleFace(), strings.Repeat("BB ", 11) + "B B B B B B B B", impl.MaxWide, []int64{1}, exampleShorts()}
	wrong := lineArgs{exampleFace(), "AA BB", -1, []int64{0, 0, 9}, exampleShorts()}
	right := lineArgs{exampleFace(), "AA BB", 50, []int64{1}, exampleShorts()}
	for _, c := range lineCalls() {
		for _, a := range []lineArgs{wrong, right, many} {
			if slices.Contains(linesWithFace, c.name) {
				for name, f := range badFaces() {
					b := a
					b.face = f
					isError(t, name, c, b, impl.ErrInvalid)
					b.text = ""
					isError(t, name, c, b, impl.ErrInvalid)
				}
			}
			if slices.Contains(linesWithText, c.name) {
				for _, text := range badTexts() {
					b := a
					b.text = text
					isError(t, text, c, b, impl.ErrInvalid)
				}
			}
			if slices.Contains(linesWithShorts, c.name) {
				for name, list := range badShorts() {
					b := a
					b.shorts = list
					isError(t, name, c, b, impl.ErrInvalid)
					b.text = ""
					isError(t, name, c, b, impl.ErrInvalid)
				}
			}
		}
		if slices.Contains([]string{"FewestShorts", "LengthenAll"}, c.name) {
			isError(t, "over a limit", c, many, impl.ErrLimit)
		}
	}
}
