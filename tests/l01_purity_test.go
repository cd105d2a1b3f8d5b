package tests

import (
	"fmt"
	"math"
	"reflect"
	"slices"
	"strings"
	"testing"

	"loop.example/g01398/impl"
)

// This file holds all functions of chapter 1 to promise 1, with the conventions behind it: each call gets the same arguments.

type letterArgs struct {
	face  impl.Face
	other impl.Face
	text  string
	words []string
	pair  impl.Pair
	num   int64
}

// call is one function; it returns all results, the code last, where there is one.
type call struct {
	name string
	run  func(a letterArgs) []any
	code bool
}

func letterCalls() []call {
	two := func(a any, code int64) []any { return []any{a, code} }
	return []call{
		{"CodeName", func(a letterArgs) []any { return []any{impl.CodeName(a.num)} }, false},
		{"ValidFace", func(a letterArgs) []any { return []any{impl.ValidFace(a.face)} }, false},
		{"SameFace", func(a letterArgs) []any { return []any{impl.SameFace(a.face, a.other)} }, false},
		{"ValidText", func(a letterArgs) []any { return []any{impl.ValidText(a.text)} }, false},
		{"FaceText", func(a letterArgs) []any { return []any{impl.FaceText(a.face)} }, false},
		{"WordsOf", func(a letterArgs) []any { r, c := impl.WordsOf(a.text); return two(r, c) }, true},
		{"JoinWords", func(a letterArgs) []any { r, c := impl.JoinWords(a.words); return two(r, c) }, true},
		{"PairBy", func(a letterArgs) []any { r, c := impl.PairBy(a.face, a.pair.A, a.pair.B); return two(r, c) }, true},
		{"WithPair", func(a letterArgs) []any { r, c := impl.WithPair(a.face, a.pair); return two(r, c) }, true},
		{"WordWide", func(a letterArgs) []any { r, c := impl.WordWide(a.face, a.text); return two(r, c) }, true},
		{"LineWide", func(a letterArgs) []any { r, c := impl.LineWide(a.face, a.text); return two(r, c) }, true},
		{"PlacesOf", func(a letterArgs) []any { r, c := impl.PlacesOf(a.face, a.text); return two(r, c) }, true},
		{"LetterAt", func(a letterArgs) []any { r, c := impl.LetterAt(a.face, a.text, a.num); return two(r, c) }, true},
		{"WidestWord", func(a letterArgs) []any { i, w, c := impl.WidestWord(a.face, a.text); return []any{i, w, c} }, true},
		{"CentreLine", func(a letterArgs) []any { r, c := impl.CentreLine(a.face, a.text, a.num); return two(r, c) }, true},
		{"JustifyLine", func(a letterArgs) []any { r, c := impl.JustifyLine(a.face, a.text, a.num); return two(r, c) }, true},
		{"LongestFit", func(a letterArgs) []any { r, c := impl.LongestFit(a.face, a.text, a.num); return two(r, c) }, true},
		{"CountLetters", func(a letterArgs) []any { r, c := impl.CountLetters(a.text); return two(r, c) }, true},
		{"LoosenFace", func(a letterArgs) []any { r, c := impl.LoosenFace(a.face, a.num); return two(r, c) }, true},
		{"ReadFace", func(a letterArgs) []any { r, c := impl.ReadFace(a.text); return two(r, c) }, true},
	}
}

// letterCases are ordinary arguments, and others of all kinds, each with all others.
func letterCases() []letterArgs {
	faces := []impl.Face{exampleFace(), plainFace(), unevenFace(), plainFace(manyPairs(impl.MaxPairs)...), plainFace(manyPairs(1000)...)}
	for _, f := range badFaces() {
		faces = append(faces, f)
	}
	texts := append(badTexts(), "", "AVE VIA", "A", "BAB AB", strings.Repeat("A", impl.MaxText), strings.Repeat("A ", 29)+"ZZ", impl.FaceText(exampleFace()), ";;;", strings.Repeat(";", 1000))
	numbers := []int64{0, 1, -1, 5, 9, 72, 80, impl.MaxWide, impl.MaxWide + 1, 1 << 32, math.MaxInt64, math.MinInt64}
	pairs := []impl.Pair{{A: 'A', B: 'V'}, {A: 'B', B: 'B', By: 1}, {A: 'A', B: 'B', By: -2}, {A: 'Z', B: 'Z', By: -128}, {A: 255, B: 0, By: 127}, {}}
	var cases []letterArgs
	for i, f := range faces {
		for j, text := range texts {
			for k, n := range numbers {
				p := pairs[(i+j+k)%len(pairs)]
				words := [][]string{{"AVE", "VIA"}, nil, {""}, {text}, {text, text}, texts}[(i+j+k)%6]
				cases = append(cases, letterArgs{f, faces[(i+j)%len(faces)], text, words, p, n})
			}
		}
	}
	return cases
}

func TestP1EveryFunctionReturnsForAllArguments(t *testing.T) {
	for _, a := range letterCases() {
		for _, c := range letterCalls() {
			results := c.run(a)
			if !c.code {
				continue
			}
			last := len(results) - 1
			code := results[last].(int64)
			if impl.CodeName(code) == "" {
				t.Errorf("%s returns the code %d", c.name, code)
			}
			isCode(t, c.name, code, code, results[:last]...)
		}
	}
}

func TestP1EveryFunctionReturnsForGreatArguments(t *testing.T) {
	const great = 1_000_000
	f := plainFace()
	f.Pairs = make([]impl.Pair, great)
	texts := []string{strings.Repeat("A", great), strings.Repeat(" ", great), strings.Repeat(";", great), wides + ";6;2;" + strings.Repeat("AA+1 ", great/5), wides + strings.Repeat(" 1", great/2) + ";6;2;"}
	for _, text := range texts {
		a := letterArgs{face: f, other: f, text: text, words: slices.Repeat([]string{"A"}, great), num: math.MaxInt64}
		for _, c := range letterCalls() {
			results := c.run(a)
			if c.code && results[len(results)-1] == int64(impl.OK) {
				t.Errorf("%s takes great arguments", c.name)
			}
			a := a
			a.face = plainFace()
			c.run(a)
		}
	}
	if !impl.SameFace(f, f) {
		t.Error("a great face is not the same as itself")
	}
}

func TestP1EqualArgumentsHaveEqualResults(t *testing.T) {
	cases := letterCases()
	calls := letterCalls()
	first := make([]string, 0, len(cases)*len(calls))
	for _, a := range cases {
		for _, c := range calls {
			first = append(first, fmt.Sprintf("%v", c.run(a)))
		}
	}
	// The second time in the other order, and with other memory.
	at := len(first)
	for i := range cases {
		a := cases[len(cases)-1-i]
		a.face.Pairs = append(make([]impl.Pair, 0, 99), a.face.Pairs...)
		a.words = append(make([]string, 0, 99), a.words...)
		a.text = strings.Clone(a.text)
		for j := range calls {
			c := calls[len(calls)-1-j]
			at--
			if got := fmt.Sprintf("%v", c.run(a)); got != first[at] {
				t.Errorf("%s: got %s, and then %s", c.name, first[at], got)
			}
		}
	}
}

// roomy returns a list with more capacity, in all of which there is something.
func roomy[T any](list []T, filler T) ([]T, []T) {
	all := append(slices.Clone(list), filler, filler, filler)
	return all[:len(list)], all
}

func TestP1ArgumentsAreNotModified(t *testing.T) {
	for _, a := range letterCases() {
		var pairs, others []impl.Pair
		var words []string
		a.face.Pairs, pairs = roomy(a.face.Pairs, impl.Pair{A: 'X', B: 'Y', By: 9})
		a.other.Pairs, others = roomy(a.other.Pairs, impl.Pair{A: 'X', B: 'Y', By: 9})
		a.words, words = roomy(a.words, "SPARE")
		wasPairs, wasOthers, wasWords := slices.Clone(pairs), slices.Clone(others), slices.Clone(words)
		for _, c := range letterCalls() {
			c.run(a)
			if !slices.Equal(pairs, wasPairs) || !slices.Equal(others, wasOthers) || !slices.Equal(words, wasWords) {
				t.Fatalf("%s modifies an argument", c.name)
			}
		}
	}
}

// scribble writes zeros into all the memory of a result, also beyond its length.
func scribble(result any) {
	v := reflect.ValueOf(result)
	if v.Kind() == reflect.Struct {
		v = v.FieldByName("Pairs")
	}
	if v.Kind() == reflect.Slice {
		all := v.Slice(0, v.Cap())
		for i := range all.Len() {
			all.Index(i).SetZero()
		}
	}
}

func TestP1ResultsShareNoMemory(t *testing.T) {
	for _, a := range letterCases() {
		var pairs []impl.Pair
		var words []string
		a.face.Pairs, pairs = roomy(a.face.Pairs, impl.Pair{A: 'X', B: 'Y', By: 9})
		a.words, words = roomy(a.words, "SPARE")
		wasPairs, wasWords := slices.Clone(pairs), slices.Clone(words)
		for _, c := range letterCalls() {
			first, second := c.run(a), c.run(a)
			want := fmt.Sprintf("%v", second)
			for _, r := range first {
				scribble(r)
			}
			if fmt.Sprintf("%v", second) != want {
				t.Fatalf("%s: two results share memory", c.name)
			}
			if !slices.Equal(pairs, wasPairs) || !slices.Equal(words, wasWords) {
				t.Fatalf("%s: a result shares memory with an argument", c.name)
			}
		}
	}
}

func TestP1TheOrderOfErrors(t *testing.T) {
	for _, c := range letterCalls() {
		takesFace := !slices.Contains([]string{"WordsOf", "JoinWords", "CountLetters", "ReadFace"}, c.name)
		if !c.code || !takesFace {
			continue
		}
		for name, f := range badFaces() {
			// Everything else is wrong too, but for the text, so that the face alone has to be noticed.
			for _, text := range []string{"A", ""} {
				results := c.run(letterArgs{face: f, text: text, pair: impl.Pair{A: 'a', B: 'b', By: 99}, num: -1})
				last := len(results) - 1
				isCode(t, c.name+", "+name, results[last].(int64), impl.ErrInvalid, results[:last]...)
			}
		}
	}
	takeText := []string{"WordsOf", "WordWide", "LineWide", "PlacesOf", "LetterAt", "WidestWord", "CentreLine", "JustifyLine", "LongestFit", "CountLetters"}
	for _, c := range letterCalls() {
		if !slices.Contains(takeText, c.name) {
			continue
		}
		for _, text := range badTexts() {
			for _, n := range []int64{-1, 0, 80, math.MaxInt64} {
				results := c.run(letterArgs{face: exampleFace(), text: text, num: n})
				last := len(results) - 1
				isCode(t, c.name+" "+text, results[last].(int64), impl.ErrInvalid, results[:last]...)
			}
		}
	}
}
