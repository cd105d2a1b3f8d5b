package tests

import (
	"math"
	"slices"
	"strings"
	"testing"

	"loop.example/g01398/impl"
)

// This file holds all functions of chapter 1 to promise 1, with the conventions behind it: each call gets the same arguments.

type letterArgs struct {
	face  impl.Face
	other impl.Face
	text  string
	words []string
	pair  impl.Pair
	num   int64
}

func letterCalls() []call[letterArgs] {
	two := func(a any, code int64) []any { return []any{a, code} }
	return []call[letterArgs]{
		{"CodeName", func(a letterArgs) []any { return []any{impl.CodeName(a.num)} }, false},
		{"ValidFace", func(a letterArgs) []any { return []any{impl.ValidFace(a.face)} }, false},
		{"SameFace", func(a letterArgs) []any { return []any{impl.SameFace(a.face, a.other)} }, false},
		{"ValidText", func(a letterArgs) []any { return []any{impl.ValidText(a.text)} }, false},
		{"FaceText", func(a letterArgs) []any { return []any{impl.FaceText(a.face)} }, false},
		{"WordsOf", func(a letterArgs) []any { r, c := impl.WordsOf(a.text); return two(r, c) }, true},
		{"JoinWords", func(a letterArgs) []any { r, c := impl.JoinWords(a.words); return two(r, c) }, true},
		{"PairBy", func(a letterArgs) []any { r, c := impl.PairBy(a.face, a.pair.A, a.pair.B); return two(r, c) }, true},
		{"WithPair", func(a letterArgs) []any { r, c := impl.WithPair(a.face, a.pair); return two(r, c) }, true},
		{"WordWide", func(a letterArgs) []any { r, c := impl.WordWide(a.face, a.text); return two(r, c) }, true},
		{"LineWide", func(a letterArgs) []any { r, c := impl.LineWide(a.face, a.text); return two(r, c) }, true},
		{"PlacesOf", func(a letterArgs) []any { r, c := impl.PlacesOf(a.face, a.text); return two(r, c) }, true},
		{"LetterAt", func(a letterArgs) []any { r, c := impl.LetterAt(a.face, a.text, a.num); return two(r, c) }, true},
		{"WidestWord", func(a letterArgs) []any { i, w, c := impl.WidestWord(a.face, a.text); return []any{i, w, c} }, true},
		{"CentreLine", func(a letterArgs) []any { r, c := impl.CentreLine(a.face, a.text, a.num); return two(r, c) }, true},
		{"JustifyLine", func(a letterArgs) []any { r, c := impl.JustifyLine(a.face, a.text, a.num); return two(r, c) }, true},
		{"LongestFit", func(a letterArgs) []any { r, c := impl.LongestFit(a.face, a.text, a.num); return two(r, c) }, true},
		{"CountLetters", func(a letterArgs) []any { r, c := impl.CountLetters(a.text); return two(r, c) }, true},
		{"LoosenFace", func(a letterArgs) []any { r, c := impl.LoosenFace(a.face, a.num); return two(r, c) }, true},
		{"ReadFace", func(a letterArgs) []any { r, c := impl.ReadFace(a.text); return two(r, c) }, true},
	}
}

// letterCases are ordinary arguments, and others of all kinds, each with all others.
func letterCases() []letterArgs {
	faces := []impl.Face{exampleFace(), plainFace(), unevenFace(), plainFace(manyPairs(impl.MaxPairs)...), plainFace(manyPairs(1000)...)}
	for _, f := range badFaces() {
		faces = append(faces, f)
	}
	texts := append(badTexts(), "", "AVE VIA", "A", "BAB AB", strings.Repeat("A", impl.MaxText), strings.Repeat("A ", 29)+"ZZ", impl.FaceText(exampleFace()), ";;;", strings.Repeat(";", 1000))
	numbers := []int64{0, 1, -1, 5, 9, 72, 80, impl.MaxWide, impl.MaxWide + 1, 1 << 32, math.MaxInt64, math.MinInt64}
	pairs := []impl.Pair{{A: 'A', B: 'V'}, {A: 'B', B: 'B', By: 1}, {A: 'A', B: 'B', By: -2}, {A: 'Z', B: 'Z', By: -128}, {A: 255, B: 0, By: 127}, {}}
	var cases []letterArgs
	for i, f := range faces {
		for j, text := range texts {
			for k, n := range numbers {
				p := pairs[(i+j+k)%len(pairs)]
				words := [][]string{{"AVE", "VIA"}, nil, {""}, {text}, {text, text}, texts}[(i+j+k)%6]
				cases = append(cases, letterArgs{f, faces[(i+j)%len(faces)], text, words, p, n})
			}
		}
	}
	return cases
}

func TestP1EveryFunctionReturnsForAllArguments(t *testing.T) {
	for _, a := range letterCases() {
		for _, c := range letterCalls() {
			isCall(t, c, a)
		}
	}
}

func TestP1EveryFunctionReturnsForGreatArguments(t *testing.T) {
	const great = 1_000_000
	f := plainFace()
	f.Pairs = make([]impl.Pair, great)
	texts := []string{strings.Repeat("A", great), strings.Repeat(" ", great), strings.Repeat(";", great), wides + ";6;2;" + strings.Repeat("AA+1 ", great/5), wides + strings.Repeat(" 1", great/2) + ";6;2;"}
	for _, text := range texts {
		a := letterArgs{face: f, other: f, text: text, words: slices.Repeat([]string{"A"}, great), num: math.MaxInt64}
		for _, c := range letterCalls() {
			results := c.run(a)
			if c.code && results[len(results)-1] == int64(impl.OK) {
				t.Errorf("%s takes great arguments", c.name)
			}
			a := a
			a.face = plainFace()
			c.run(a)
		}
	}
	if !impl.SameFace(f, f) {
		t.Error("a great face is not the same as itself")
	}
}

func TestP1EqualArgumentsHaveEqualResults(t *testing.T) {
	haveEqualResults(t, letterCases(), letterCalls(), func(a letterArgs) letterArgs {
		a.face.Pairs = elsewhere(a.face.Pairs)
		a.words = elsewhere(a.words)
		a.text = strings.Clone(a.text)
		return a
	})
}

func guardLetters(a letterArgs) (letterArgs, func() bool) {
	pairs := guard(&a.face.Pairs, impl.Pair{A: 'X', B: 'Y', By: 9})
	others := guard(&a.other.Pairs, impl.Pair{A: 'X', B: 'Y', By: 9})
	words := guard(&a.words, "SPARE")
	return a, func() bool { return pairs() && others() && words() }
}

func TestP1ArgumentsAreNotModified(t *testing.T) {
	doNotModify(t, letterCases(), letterCalls(), guardLetters)
}

func TestP1ResultsShareNoMemory(t *testing.T) {
	shareNoMemory(t, letterCases(), letterCalls(), guardLetters)
}

func TestP1TheOrderOfErrors(t *testing.T) {
	for _, c := range letterCalls() {
		takesFace := !slices.Contains([]string{"WordsOf", "JoinWords", "CountLetters", "ReadFace"}, c.name)
		if !c.code || !takesFace {
			continue
		}
		for name, f := range badFaces() {
			// Everything else is wrong too, but for the text, so that the face alone has to be noticed.
			for _, text := range []string{"A", ""} {
				isError(t, name, c, letterArgs{face: f, text: text, pair: impl.Pair{A: 'a', B: 'b', By: 99}, num: -1}, impl.ErrInvalid)
			}
		}
	}
	takeText := []string{"WordsOf", "WordWide", "LineWide", "PlacesOf", "LetterAt", "WidestWord", "CentreLine", "JustifyLine", "LongestFit", "CountLetters"}
	for _, c := range letterCalls() {
		if !slices.Contains(takeText, c.name) {
			continue
		}
		for _, text := range badTexts() {
			for _, n := range []int64{-1, 0, 80, math.MaxInt64} {
				isError(t, text, c, letterArgs{face: exampleFace(), text: text, num: n}, impl.ErrInvalid)
			}
		}
	}
}
