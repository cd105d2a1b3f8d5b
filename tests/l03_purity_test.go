package tests

import (
	"math"
	"slices"
	"strings"
	"testing"

	"loop.example/g01398/impl"
)

// This file holds all functions of chapter 3 to promise 1, with the conventions behind it: each call gets the same arguments.

type numberArgs struct {
	face   impl.Face
	system impl.System
	other  impl.System
	text   string
	num    int64
	high   int64
}

func numberCalls() []call[numberArgs] {
	two := func(a any, code int64) []any { return []any{a, code} }
	return []call[numberArgs]{
		{"ValidSystem", func(a numberArgs) []any { return []any{impl.ValidSystem(a.system)} }, false},
		{"SameSystem", func(a numberArgs) []any { return []any{impl.SameSystem(a.system, a.other)} }, false},
		{"OldSystem", func(a numberArgs) []any { return []any{impl.OldSystem(a.num > 0)} }, false},
		{"PlainSystem", func(a numberArgs) []any { r, c := impl.PlainSystem(a.system); return two(r, c) }, true},
		{"ValueOf", func(a numberArgs) []any { r, c := impl.ValueOf(a.system, a.text); return two(r, c) }, true},
		{"PartsOf", func(a numberArgs) []any { r, c := impl.PartsOf(a.system, a.text); return two(r, c) }, true},
		{"IsRight", func(a numberArgs) []any { r, c := impl.IsRight(a.system, a.text); return two(r, c) }, true},
		{"ShortestFor", func(a numberArgs) []any { r, c := impl.ShortestFor(a.system, a.num); return two(r, c) }, true},
		{"GreedyFor", func(a numberArgs) []any { r, c := impl.GreedyFor(a.system, a.num); return two(r, c) }, true},
		{"LongestNumber", func(a numberArgs) []any {
			n, r, c := impl.LongestNumber(a.system, a.num, a.high)
			return []any{n, r, c}
		}, true},
		{"GreatestOf", func(a numberArgs) []any { n, r, c := impl.GreatestOf(a.system, a.num); return []any{n, r, c} }, true},
		{"CountRight", func(a numberArgs) []any { r, c := impl.CountRight(a.system, a.num, a.high); return two(r, c) }, true},
		{"Readings", func(a numberArgs) []any { r, c := impl.Readings(a.system, a.text); return two(r, c) }, true},
		{"ReadingsBetween", func(a numberArgs) []any {
			r, c := impl.ReadingsBetween(a.system, a.text, a.num, a.high)
			return two(r, c)
		}, true},
		{"ValuesOf", func(a numberArgs) []any { r, c := impl.ValuesOf(a.system, a.text); return two(r, c) }, true},
		{"SureLetters", func(a numberArgs) []any { r, c := impl.SureLetters(a.system, a.text); return two(r, c) }, true},
		{"WidthOfNumber", func(a numberArgs) []any { r, c := impl.WidthOfNumber(a.face, a.system, a.num); return two(r, c) }, true},
		{"SystemText", func(a numberArgs) []any { return []any{impl.SystemText(a.system)} }, false},
		{"ReadSystem", func(a numberArgs) []any { r, c := impl.ReadSystem(a.text); return two(r, c) }, true},
	}
}

// The functions that have no error for an invalid system.
var numbersWithoutSystem = []string{"ValidSystem", "SameSystem", "OldSystem", "SystemText", "ReadSystem"}

// numberRanges are pairs of numbers of all kinds.
func numberRanges() [][2]int64 {
	return [][2]int64{
		{0, 0}, {1, 40}, {4, 4}, {17, 16}, {impl.MaxCounted, impl.MaxLong}, {impl.MaxCounted + 1, impl.MaxLong}, {impl.MaxCounted, impl.MaxLong + 1}, {impl.MaxNumber, impl.MaxNumber}, {impl.MaxNumber + 1, 0},
		{-1, 5}, {5, -1}, {math.MinInt64, math.MaxInt64}, {math.MaxInt64, math.MinInt64}, {1 << 32, 1 << 32},
	}
}

// numberCases are ordinary arguments, each with all others, and others of all kinds.
func numberCases() []numberArgs {
	texts := append(noLetters(), "", "I", "XVI", "MCMXC", "IC", "X?I", "?", "X?C", "????", "?????", "M????", "?A", "IIIIIIIIIIIIIIII", "IIIIIIIIIIIIIIIII", "????????????????", oldText, oneSign, "I1", strings.Repeat("I", 1000), fullWorn, overWorn)
	ranges := numberRanges()
	var cases []numberArgs
	for i, system := range goodSystems() {
		for j, text := range texts {
			ends := ranges[(i+j)%len(ranges)]
			cases = append(cases, numberArgs{exampleFace(), systemOf(system), impl.OldSystem(j%2 == 0), text, ends[0], ends[1]})
		}
	}
	for _, ends := range append(ranges, [2]int64{0, impl.MaxNumber}) {
		cases = append(cases, numberArgs{unevenFace(), impl.OldSystem(false), impl.OldSystem(false), "X?I", ends[0], ends[1]})
	}
	for _, s := range badSystems() {
		cases = append(cases, numberArgs{exampleFace(), s, s, "X?I", 4, 5})
	}
	for _, f := range badFaces() {
		cases = append(cases, numberArgs{f, impl.OldSystem(false), impl.OldSystem(true), "", 4, 5})
	}
	return cases
}

func TestP1NumbersReturnForAllArguments(t *testing.T) {
	for _, a := range numberCases() {
		for _, c := range numberCalls() {
			isCall(t, c, a)
		}
	}
}

func TestP1NumbersReturnForGreatArguments(t *testing.T) {
	const great = 1_000_000
	old := impl.OldSystem(false)
	systems := []impl.System{
		{Signs: make([]impl.Sign, great)}, {Signs: old.Signs, Minus: make([][2]uint8, great)}, {Signs: slices.Repeat(old.Signs, great/7), Minus: slices.Repeat(old.Minus, great/7)},
		{Signs: slices.Repeat([]impl.Sign{{Letter: 'I', Value: 1}}, great)}, {Minus: slices.Repeat([][2]uint8{{'I', 'X'}}, great)}, {Signs: old.Signs, Minus: slices.Repeat([][2]uint8{{'I', 'X'}}, great)},
	}
	texts := []string{strings.Repeat("I", great), strings.Repeat("?", great), strings.Repeat(" ", great), strings.Repeat("I1 ", great/3) + "I1;", "I" + strings.Repeat("1", great) + ";", "X10 I1;" + strings.Repeat("IX ", great/3) + "IX", strings.Repeat(";", great)}
	for _, text := range texts {
		for _, s := range append(systems, old) {
			a := numberArgs{exampleFace(), s, systems[0], text, math.MaxInt64, math.MinInt64}
			for _, c := range numberCalls() {
				results := c.run(a)
				if c.code && results[len(results)-1] == int64(impl.OK) && c.name != "PlainSystem" {
					t.Errorf("%s takes great arguments", c.name)
				}
				isCall(t, c, a)
			}
		}
	}
}

func TestP1NumbersOfEqualArgumentsAreEqual(t *testing.T) {
	haveEqualResults(t, numberCases(), numberCalls(), func(a numberArgs) numberArgs {
		a.face.Pairs, a.text = elsewhere(a.face.Pairs), strings.Clone(a.text)
		a.system = impl.System{Signs: elsewhere(a.system.Signs), Minus: elsewhere(a.system.Minus)}
		a.other = impl.System{Signs: elsewhere(a.other.Signs), Minus: elsewhere(a.other.Minus)}
		return a
	})
}

func TestP1ShortestNumbersOfMillionsReturn(t *testing.T) {
	// 56 is made of eight sevens, each of which is one of six minus pairs, so that going through all shortest numbers would take long.
	for range 50 {
		text, code := impl.ShortestFor(systemOf(sevens), 56)
		is(t, "ShortestFor", []any{text, code}, []any{"BABABABABABABABA", 0})
	}
}

func guardSystem(s *impl.System) func() bool {
	signs := guard(&s.Signs, impl.Sign{Letter: 'S', Value: 7})
	minus := guard(&s.Minus, [2]uint8{'S', 'P'})
	return func() bool { return signs() && minus() }
}

func guardNumbers(a numberArgs) (numberArgs, func() bool) {
	pairs := guard(&a.face.Pairs, impl.Pair{A: 'X', B: 'Y', By: 9})
	system, other := guardSystem(&a.system), guardSystem(&a.other)
	return a, func() bool { return pairs() && system() && other() }
}

func TestP1NumbersDoNotModifyArguments(t *testing.T) {
	doNotModify(t, numberCases(), numberCalls(), guardNumbers)
}

func TestP1NumbersShareNoMemory(t *testing.T) {
	shareNoMemory(t, numberCases(), numberCalls(), guardNumbers)
}

func TestP1InvalidArgumentsOfNumbersComeFirst(t *testing.T) {
	// Everything else is wrong too, or nothing else is, or only a limit is passed.
	wrong := numberArgs{exampleFace(), impl.OldSystem(false), impl.System{}, "a????????????????", -1, math.MinInt64}
	right := numberArgs{exampleFace(), impl.OldSystem(false), impl.System{}, "X?I", 4, 5}
	many := numberArgs{exampleFace(), systemOf(oneSign), impl.System{}, "?????", 17, 17}
	for _, c := range numberCalls() {
		for _, a := range []numberArgs{wrong, right, many} {
			if c.name == "WidthOfNumber" {
				for name, f := range badFaces() {
					b := a
					b.face = f
					isError(t, name, c, b, impl.ErrInvalid)
				}
			}
			if slices.Contains(numbersWithoutSystem, c.name) {
				continue
			}
			for name, s := range badSystems() {
				b := a
				b.system = s
				isError(t, name, c, b, impl.ErrInvalid)
				b.text = ""
				isError(t, name, c, b, impl.ErrInvalid)
				b.face = impl.Face{}
				isError(t, name, c, b, impl.ErrInvalid)
			}
		}
		if slices.Contains([]string{"ShortestFor", "GreedyFor", "WidthOfNumber", "Readings", "ReadingsBetween", "ValuesOf", "SureLetters"}, c.name) {
			isError(t, "over a limit", c, many, impl.ErrLimit)
		}
	}
}
