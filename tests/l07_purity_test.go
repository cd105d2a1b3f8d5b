package tests

import (
	"fmt"
	"math"
	"reflect"
	"slices"
	"strings"
	"sync"
	"testing"

	"loop.example/g01398/impl"
)

// This file holds all functions of chapter 7 to promise 1, with the conventions behind it: each call gets the same arguments.

type rubbingArgs struct {
	a, b        impl.Rubbing
	list        []impl.Rubbing
	num, other  int64
	face        impl.Face
	text        string
	gaps, apart []int64
	hands       [][]int64
}

func rubbingCalls() []call[rubbingArgs] {
	one := func(a any) []any { return []any{a} }
	two := func(a any, code int64) []any { return []any{a, code} }
	return []call[rubbingArgs]{
		{"CountDark", func(a rubbingArgs) []any { return one(impl.CountDark(a.a)) }, false},
		{"MoveRubbing", func(a rubbingArgs) []any { r, c := impl.MoveRubbing(a.a, a.num, a.other); return two(r, c) }, true},
		{"MatchOf", func(a rubbingArgs) []any { return one(impl.MatchOf(a.a, a.b)) }, false},
		{"MatchAt", func(a rubbingArgs) []any { r, c := impl.MatchAt(a.a, a.b, a.num, a.other); return two(r, c) }, true},
		{"BestMove", func(a rubbingArgs) []any { x, y, m := impl.BestMove(a.a, a.b); return []any{x, y, m} }, false},
		{"WearOnce", func(a rubbingArgs) []any { r, c := impl.WearOnce(a.a, a.num); return two(r, c) }, true},
		{"WearUntil", func(a rubbingArgs) []any { r, c := impl.WearUntil(a.a, a.num, a.other); return two(r, c) }, true},
		{"MayBeWorn", func(a rubbingArgs) []any { return one(impl.MayBeWorn(a.a, a.b)) }, false},
		{"JoinRubbings", func(a rubbingArgs) []any { r, c := impl.JoinRubbings(a.list); return two(r, c) }, true},
		{"SureDark", func(a rubbingArgs) []any { r, c := impl.SureDark(a.list, a.num); return two(r, c) }, true},
		{"MirrorRubbing", func(a rubbingArgs) []any { return one(impl.MirrorRubbing(a.a)) }, false},
		{"DarkRows", func(a rubbingArgs) []any { return one(impl.DarkRows(a.a)) }, false},
		{"GapsOf", func(a rubbingArgs) []any { r, c := impl.GapsOf(a.face, a.text); return two(r, c) }, true},
		{"GapsApart", func(a rubbingArgs) []any { r, c := impl.GapsApart(a.gaps, a.apart); return two(r, c) }, true},
		{"NearestHand", func(a rubbingArgs) []any { i, r, c := impl.NearestHand(a.hands, a.gaps); return []any{i, r, c} }, true},
		{"GroupHands", func(a rubbingArgs) []any { r, c := impl.GroupHands(a.hands, a.num); return two(r, c) }, true},
		{"RubbingText", func(a rubbingArgs) []any { return one(impl.RubbingText(a.a)) }, false},
		{"ReadRubbing", func(a rubbingArgs) []any { r, c := impl.ReadRubbing(a.text); return two(r, c) }, true},
	}
}

func rubbingLists() [][]impl.Rubbing {
	return [][]impl.Rubbing{nil, {{}}, {allDark()}, someRubbings()[:3], someRubbings()[:8], someRubbings()[:9], make([]impl.Rubbing, 1000)}
}

func handLists() [][][]int64 {
	return [][][]int64{nil, {nil}, single(0, 9, 1, 8), goodGaps()[:8], goodGaps()[:9], goodGaps(), make([][]int64, 1000), {{101}}, {{1}, {2}, {math.MinInt64}}}
}

func rubbingTexts() []string {
	texts := []string{"", "A", "AVE", "AVE VIA", strings.Repeat("M", impl.MaxText), strings.Repeat("M", impl.MaxText+1), strings.Repeat(".", 136), strings.Repeat("\n", 136)}
	for _, r := range someRubbings() {
		texts = append(texts, textOfDots(dotsOf(r)))
	}
	return texts
}

// rubbingCases are ordinary arguments, each with all others, and others of all kinds.
func rubbingCases() []rubbingArgs {
	faces := []impl.Face{plainFace(), exampleFace(), unevenFace(), plainFace(manyPairs(12)...)}
	rubbings, texts, lists, gaps, hands := someRubbings(), rubbingTexts(), rubbingLists(), goodGaps(), handLists()
	numbers := append(oddNumbers(), 0, 1, 2, 3, 5, 6, -5, -6, 8, 9, 11, 128, 6000)
	var cases []rubbingArgs
	for i, a := range rubbings {
		for j, b := range rubbings {
			for k, n := range numbers {
				m := i + j + k
				cases = append(cases, rubbingArgs{a, b, lists[m%len(lists)], n, numbers[(i+2*j+3*k)%len(numbers)], faces[m%4], texts[m%len(texts)], gaps[m%len(gaps)], gaps[(i+j+2*k)%len(gaps)], hands[(i+k)%len(hands)]})
			}
		}
	}
	ordinary := rubbingArgs{rubbings[4], rubbings[5], rubbings[:3], 2, 0, exampleFace(), "AVE", []int64{2, 0, 1}, []int64{2, 1}, goodGaps()[:4]}
	for _, n := range numbers {
		ordinary.num = n
		cases = append(cases, ordinary)
		add := func(change func(a *rubbingArgs)) {
			a := ordinary
			change(&a)
			cases = append(cases, a)
		}
		for _, f := range badFaces() {
			add(func(a *rubbingArgs) { a.face = f })
		}
		for _, text := range badTexts() {
			add(func(a *rubbingArgs) { a.text = text })
		}
		for _, bad := range badGaps() {
			add(func(a *rubbingArgs) { a.gaps = bad })
			add(func(a *rubbingArgs) { a.apart, a.hands = bad, append(goodGaps()[:4], bad) })
		}
	}
	return cases
}

func TestP1RubbingsReturnForAllArguments(t *testing.T) {
	for _, a := range rubbingCases() {
		for _, c := range rubbingCalls() {
			isCall(t, c, a)
		}
	}
}

func TestP1RubbingsReturnForAllNumbers(t *testing.T) {
	// Around each power of 2, so that no sum or size of one goes over its end unseen.
	numbers := []int64{0}
	for bit := range 64 {
		for n := int64(-2); n <= 2; n++ {
			numbers = append(numbers, int64(uint64(1)<<bit)+n, -int64(uint64(1)<<bit)+n)
		}
	}
	for _, n := range numbers {
		for _, m := range []int64{0, 5, -5, 6, math.MinInt64, math.MaxInt64, n} {
			for _, a := range []rubbingArgs{
				{a: allDark(), b: frame(), list: rubbingLists()[3], num: n, other: m, face: plainFace(), text: "AVE", gaps: []int64{n, m}, apart: []int64{m, n}, hands: [][]int64{{m}, {0}}},
				{a: allDark(), b: frame(), list: rubbingLists()[4], num: m, other: n, face: plainFace(), text: "AVE", gaps: []int64{0}, apart: []int64{n}, hands: [][]int64{{100}, {-100}, {n}}},
			} {
				for _, c := range rubbingCalls() {
					isCall(t, c, a)
				}
			}
		}
	}
}

func TestP1RubbingsReturnForGreatArguments(t *testing.T) {
	const great = 1_000_000
	f := plainFace()
	f.Pairs = make([]impl.Pair, great)
	texts := []string{strings.Repeat("A", great), strings.Repeat("#", great), strings.Repeat("\n", great), strings.Repeat("................\n", great/17), textOfDots(dotsOf(frame())) + strings.Repeat("\n", great)}
	lists := [][]impl.Rubbing{make([]impl.Rubbing, great/8), slices.Repeat([]impl.Rubbing{allDark()}, great/8)}
	hands := [][][]int64{make([][]int64, great), slices.Repeat([][]int64{{1}}, great/2), {make([]int64, great)}, append(make([][]int64, great-1), []int64{101}), slices.Repeat([][]int64{make([]int64, impl.MaxGaps)}, great/impl.MaxGaps)}
	gaps := [][]int64{make([]int64, great), slices.Repeat([]int64{math.MaxInt64}, great), append(make([]int64, great-1), 101)}
	for i, text := range texts {
		a := rubbingArgs{allDark(), frame(), lists[i%2], math.MaxInt64, math.MinInt64, f, text, gaps[i%3], gaps[(i+1)%3], hands[i]}
		b := rubbingArgs{allDark(), frame(), lists[i%2], 1, 0, plainFace(), text, []int64{1}, gaps[i%3], hands[i]}
		for _, c := range rubbingCalls() {
			results := c.run(a)
			if c.code && results[len(results)-1] == int64(impl.OK) {
				t.Errorf("%s takes great arguments", c.name)
			}
			isCall(t, c, a)
			isCall(t, c, b)
		}
	}
}

func TestP1RubbingsOfEqualArgumentsAreEqual(t *testing.T) {
	haveEqualResults(t, rubbingCases(), rubbingCalls(), func(a rubbingArgs) rubbingArgs {
		a.list, a.face.Pairs, a.text = elsewhere(a.list), elsewhere(a.face.Pairs), strings.Clone(a.text)
		a.gaps, a.apart, a.hands = elsewhere(a.gaps), elsewhere(a.apart), elsewhere(a.hands)
		for i := range a.hands {
			a.hands[i] = elsewhere(a.hands[i])
		}
		return a
	})
}

func TestP1RubbingsOfManyCallsAtOnce(t *testing.T) {
	var calls sync.WaitGroup
	for i, r := range someRubbings() {
		a := rubbingArgs{r, frame(), someRubbings()[:8], 2, 0, exampleFace(), rubbingTexts()[i], []int64{2, 0, 1}, []int64{2, 1}, goodGaps()[:8]}
		for _, c := range rubbingCalls() {
			want := fmt.Sprint(c.run(a))
			for range 3 {
				calls.Go(func() {
					is(t, c.name+" at once", fmt.Sprint(c.run(a)), want)
				})
			}
		}
	}
	calls.Wait()
}

func TestP1RubbingsLeaveNoGoroutines(t *testing.T) {
	cases := rubbingCases()
	leaveNoGoroutines(t, func() {
		for i := 0; i < len(cases); i += 7 {
			for _, c := range rubbingCalls() {
				c.run(cases[i])
			}
		}
	})
}

// guardHands guards lists, and the list of them; lists are no values that can be compared.
func guardHands(hands *[][]int64) func() bool {
	var kept []func() bool
	all := slices.Concat(*hands, [][]int64{{7}, {8, 9}, nil})
	for i := range all {
		kept = append(kept, guard(&all[i], 5))
	}
	was := slices.Clone(all)
	*hands = all[:len(*hands)]
	return func() bool {
		return reflect.DeepEqual(all, was) && !slices.ContainsFunc(kept, func(isKept func() bool) bool { return !isKept() })
	}
}

func guardRubbings(a rubbingArgs) (rubbingArgs, func() bool) {
	list := guard(&a.list, impl.Rubbing{1, 2, 3})
	pairs := guard(&a.face.Pairs, impl.Pair{A: 'X', B: 'Y', By: 9})
	gaps := guard(&a.gaps, 7)
	apart := guard(&a.apart, 8)
	hands := guardHands(&a.hands)
	return a, func() bool { return list() && pairs() && gaps() && apart() && hands() }
}

func TestP1RubbingsDoNotModifyArguments(t *testing.T) {
	doNotModify(t, rubbingCases(), rubbingCalls(), guardRubbings)
}

func TestP1RubbingsShareNoMemory(t *testing.T) {
	shareNoMemory(t, rubbingCases(), rubbingCalls(), guardRubbings)
}

func TestP1InvalidArgumentsOfRubbingsComeFirst(t *testing.T) {
	// Everything else is wrong too, or nothing else is, or only a limit is passed.
	wrong := rubbingArgs{num: -1, other: -1, face: plainFace(), text: "A B", gaps: nil, apart: nil, hands: make([][]int64, 9)}
	right := rubbingArgs{num: 2, other: 0, face: plainFace(), text: "AVE", gaps: []int64{1}, apart: []int64{2}, hands: single(0, 9, 1)}
	over := rubbingArgs{num: 9, other: 9, face: plainFace(), text: "AVE", gaps: make([]int64, 30), apart: make([]int64, 30), hands: make([][]int64, 9)}
	for _, a := range []rubbingArgs{wrong, right, over, {}} {
		for _, c := range rubbingCalls() {
			switch c.name {
			case "GapsOf":
				areErrors(t, c, a, impl.ErrInvalid, badFaces(), func(a *rubbingArgs, f impl.Face) { a.face = f })
			case "GapsApart":
				areErrors(t, c, a, impl.ErrInvalid, badGaps(), func(a *rubbingArgs, bad []int64) { a.gaps = bad })
				areErrors(t, c, a, impl.ErrInvalid, badGaps(), func(a *rubbingArgs, bad []int64) { a.apart = bad })
			case "NearestHand":
				areErrors(t, c, a, impl.ErrInvalid, badGaps(), func(a *rubbingArgs, bad []int64) { a.gaps = bad })
				fallthrough
			case "GroupHands":
				for at := range len(a.hands) + 1 {
					areErrors(t, c, a, impl.ErrInvalid, badGaps(), func(a *rubbingArgs, bad []int64) {
						a.hands = slices.Insert(slices.Clone(a.hands), at, bad)
					})
				}
			}
		}
	}
}

func TestP1RubbingsOfAllKindsAreTaken(t *testing.T) {
	// No rubbing is invalid: what has no other arguments has no error.
	for _, a := range rubbingCases() {
		a.num, a.other = 0, 0
		for _, c := range rubbingCalls() {
			if !slices.Contains([]string{"MoveRubbing", "MatchAt", "WearOnce"}, c.name) {
				continue
			}
			results := c.run(a)
			is(t, c.name+" of 0", results[len(results)-1], impl.OK)
		}
		is(t, "text of MirrorRubbing", len(impl.RubbingText(impl.MirrorRubbing(a.a))), 136)
		is(t, "rows", len(impl.DarkRows(a.a)), impl.RubHigh)
	}
}
