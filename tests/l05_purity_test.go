package tests

import (
	"fmt"
	"math"
	"slices"
	"strings"
	"sync"
	"testing"

	"loop.example/g01398/impl"
)

// This file holds all functions of chapter 5 to promise 1, with the conventions behind it: each call gets the same arguments.

type chiselArgs struct {
	strokes    impl.Strokes
	chisel     impl.Chisel
	list       []impl.Chisel
	text       string
	num        int64
	order      []int64
	times, due []int64
}

func chiselCalls() []call[chiselArgs] {
	two := func(a any, code int64) []any { return []any{a, code} }
	three := func(a, b any, code int64) []any { return []any{a, b, code} }
	return []call[chiselArgs]{
		{"ValidStrokes", func(a chiselArgs) []any { return []any{impl.ValidStrokes(a.strokes)} }, false},
		{"ValidChisel", func(a chiselArgs) []any { return []any{impl.ValidChisel(a.chisel)} }, false},
		{"StrokesOf", func(a chiselArgs) []any { r, c := impl.StrokesOf(a.strokes, a.text); return two(r, c) }, true},
		{"SharpensFor", func(a chiselArgs) []any { r, c := impl.SharpensFor(a.strokes, a.chisel, a.text); return two(r, c) }, true},
		{"TimeFor", func(a chiselArgs) []any { r, c := impl.TimeFor(a.strokes, a.chisel, a.text); return two(r, c) }, true},
		{"CutUntil", func(a chiselArgs) []any {
			r, c := impl.CutUntil(a.strokes, a.chisel, a.text, a.num)
			return two(r, c)
		}, true},
		{"MiddleOut", func(a chiselArgs) []any { r, c := impl.MiddleOut(a.text); return two(r, c) }, true},
		{"CutInOrder", func(a chiselArgs) []any {
			r, c := impl.CutInOrder(a.strokes, a.chisel, a.text, a.order)
			return two(r, c)
		}, true},
		{"LeastTime", func(a chiselArgs) []any { r, c := impl.LeastTime(a.strokes, a.chisel, a.text); return two(r, c) }, true},
		{"BestChisel", func(a chiselArgs) []any { i, r, c := impl.BestChisel(a.strokes, a.list, a.text); return three(i, r, c) }, true},
		{"ShareLines", func(a chiselArgs) []any { r, m, c := impl.ShareLines(a.times, a.num); return three(r, m, c) }, true},
		{"ShareAny", func(a chiselArgs) []any { r, m, c := impl.ShareAny(a.times, a.num); return three(r, m, c) }, true},
		{"DaysFor", func(a chiselArgs) []any { r, n, c := impl.DaysFor(a.times, a.num); return three(r, n, c) }, true},
		{"LateLines", func(a chiselArgs) []any { r, c := impl.LateLines(a.times, a.due); return two(r, c) }, true},
		{"FewestLate", func(a chiselArgs) []any { r, n, c := impl.FewestLate(a.times, a.due); return three(r, n, c) }, true},
		{"StrokesText", func(a chiselArgs) []any { return []any{impl.StrokesText(a.strokes)} }, false},
		{"ReadStrokes", func(a chiselArgs) []any { r, c := impl.ReadStrokes(a.text); return two(r, c) }, true},
	}
}

// The functions that take strokes, one chisel, and a text, all of which have to be valid.
var (
	chiselsWithStrokes = []string{"StrokesOf", "SharpensFor", "TimeFor", "CutUntil", "CutInOrder", "LeastTime", "BestChisel"}
	chiselsWithOne     = []string{"SharpensFor", "TimeFor", "CutUntil", "CutInOrder", "LeastTime"}
	chiselsWithText    = append([]string{"MiddleOut"}, chiselsWithStrokes...)
	chiselsWithTimes   = []string{"ShareLines", "ShareAny", "DaysFor", "LateLines", "FewestLate"}
)

func goodTimes() [][]int64 {
	return [][]int64{nil, {1}, {30, 20}, {30, 20, 40, 10}, {10, 50, 10, 10}, {impl.MaxTime, 1, impl.MaxTime}, {1, 2, 3, 4, 5, 6, 7}, {8, 7, 6, 5, 4, 3, 2, 1}, manyTimes(12), manyTimes(13), manyTimes(1000)}
}

// chiselCases are ordinary arguments, each with all others, and others of all kinds.
func chiselCases() []chiselArgs {
	lists := [][]impl.Chisel{nil, {exampleChisel()}, goodChisels(), slices.Repeat(goodChisels(), 2), slices.Repeat(goodChisels(), 3)}
	texts := []string{"", "A", "AVE VIA", "TTTTJJJJ", "T J T", "ABCDEFGHI", strings.Repeat("M", impl.MaxText), strings.Repeat("A ", 29) + "A", strokesText(alphabetStrokes()), strokesText(allStrokes(30)), "1 2"}
	orders := [][]int64{nil, {0}, {1, 0, 2}, {3, 2, 4, 1, 5, 0}, {7, 6, 5, 4, 3, 2, 1, 0}, {0, 0, 1}, {-1}, {math.MaxInt64, math.MinInt64}, numbersBelow(impl.MaxText), make([]int64, 1000)}
	numbers := append(oddNumbers(), 0, 1, 2, 3, 6, 7, 40, 50, impl.MaxTime, impl.MaxTime+1)
	dues := append(goodTimes(), nil, []int64{60, 20}, []int64{0, 50, 10, 100}, []int64{impl.MaxTime * impl.MaxLines}, []int64{-1, 10})
	var cases []chiselArgs
	for i, text := range texts {
		for j, times := range append(goodTimes(), badTimes()...) {
			for k, n := range numbers {
				m := i + j + k
				due := slices.Repeat([]int64{n}, len(times))
				if m%3 == 0 {
					due = dues[m%len(dues)]
				}
				cases = append(cases, chiselArgs{goodStrokes()[m%4], goodChisels()[m%7], lists[m%len(lists)], text, n, orders[(i+k)%len(orders)], times, due})
			}
		}
	}
	ordinary := chiselArgs{alphabetStrokes(), exampleChisel(), goodChisels(), "AVE VIA", 2, []int64{3, 2, 4, 1, 5, 0}, []int64{30, 20, 40, 10}, []int64{30, 100, 70, 10}}
	for _, n := range numbers {
		ordinary.num = n
		cases = append(cases, ordinary)
		add := func(change func(a *chiselArgs)) {
			a := ordinary
			change(&a)
			cases = append(cases, a)
		}
		for _, s := range badStrokes() {
			add(func(a *chiselArgs) { a.strokes = s })
		}
		for _, c := range badChisels() {
			add(func(a *chiselArgs) { a.chisel, a.list = c, append(goodChisels(), c) })
		}
		for _, text := range badTexts() {
			add(func(a *chiselArgs) { a.text = text })
		}
	}
	return cases
}

func TestP1ChiselsReturnForAllArguments(t *testing.T) {
	for _, a := range chiselCases() {
		for _, c := range chiselCalls() {
			isCall(t, c, a)
		}
	}
}

func TestP1ChiselsReturnForAllStrokesAndChisels(t *testing.T) {
	// Also what is not valid, such as a chisel that holds for no letter.
	for n := math.MinInt8; n <= math.MaxInt8; n += 3 {
		for _, holds := range []int16{math.MinInt16, -30, -1, 0, 1, 29, 30, 1000, 1001, math.MaxInt16} {
			c := impl.Chisel{Holds: holds, Sharpen: int8(n)}
			a := chiselArgs{allStrokes(int8(n)), c, []impl.Chisel{c}, "AVE VIA", 40, numbersBelow(6), []int64{30}, []int64{30}}
			b := a
			b.strokes = allStrokes(10)
			for _, one := range chiselCalls() {
				isCall(t, one, a)
				isCall(t, one, b)
			}
		}
	}
}

func TestP1ChiselsReturnForGreatArguments(t *testing.T) {
	const great = 1_000_000
	texts := []string{strings.Repeat("A", great), strings.Repeat("A ", great/2), strings.Repeat(" ", great), strings.Repeat("1 ", great/2), strings.Repeat("1", great), strokesText(alphabetStrokes()) + strings.Repeat(" ", great)}
	lists := [][]impl.Chisel{make([]impl.Chisel, great), slices.Repeat([]impl.Chisel{exampleChisel()}, great), append(slices.Repeat([]impl.Chisel{exampleChisel()}, great-1), impl.Chisel{})}
	times := [][]int64{make([]int64, great), manyTimes(great), slices.Repeat([]int64{math.MaxInt64}, great), append(manyTimes(great-1), 0)}
	orders := [][]int64{make([]int64, great), numbersBelow(great), slices.Repeat([]int64{math.MinInt64}, great)}
	for i, text := range texts {
		a := chiselArgs{alphabetStrokes(), exampleChisel(), lists[i%3], text, math.MaxInt64, orders[i%3], times[i%4], times[i%4]}
		b := chiselArgs{alphabetStrokes(), exampleChisel(), lists[i%3], "AVE VIA", 2, orders[i%3], times[i%4], times[1]}
		for _, c := range chiselCalls() {
			results := c.run(a)
			if c.code && results[len(results)-1] == int64(impl.OK) {
				t.Errorf("%s takes great arguments", c.name)
			}
			isCall(t, c, a)
			isCall(t, c, b)
		}
	}
}

func TestP1ChiselsOfEqualArgumentsAreEqual(t *testing.T) {
	haveEqualResults(t, chiselCases(), chiselCalls(), func(a chiselArgs) chiselArgs {
		a.list, a.order, a.times, a.due = elsewhere(a.list), elsewhere(a.order), elsewhere(a.times), elsewhere(a.due)
		a.text = strings.Clone(a.text)
		return a
	})
}

func TestP1SharingsOfManyCallsAtOnce(t *testing.T) {
	var calls sync.WaitGroup
	for i, times := range goodTimes()[:8] {
		cutters := int64(1 + i%impl.MaxCutters)
		lines, most, _ := impl.ShareLines(times, cutters)
		mixed, lower, _ := impl.ShareAny(times, cutters)
		for range 4 {
			calls.Go(func() {
				for range 5 {
					isShared(t, "ShareLines at once", impl.ShareLines, times, cutters, most, lines...)
					isShared(t, "ShareAny at once", impl.ShareAny, times, cutters, lower, mixed...)
				}
			})
		}
	}
	calls.Wait()
}

func TestP1SharingsLeaveNoGoroutines(t *testing.T) {
	leaveNoGoroutines(t, func() {
		for range 20 {
			for _, times := range append(goodTimes(), badTimes()...) {
				for _, cutters := range []int64{0, 1, 2, 6, 7} {
					impl.ShareLines(times, cutters)
					impl.ShareAny(times, cutters)
				}
				impl.FewestLate(times, times)
			}
		}
	})
}

func guardChisels(a chiselArgs) (chiselArgs, func() bool) {
	list := guard(&a.list, impl.Chisel{Holds: 77, Sharpen: 7})
	order := guard(&a.order, 1)
	times := guard(&a.times, 7)
	due := guard(&a.due, 77)
	return a, func() bool { return list() && order() && times() && due() }
}

func TestP1ChiselsDoNotModifyArguments(t *testing.T) {
	doNotModify(t, chiselCases(), chiselCalls(), guardChisels)
}

func TestP1TimesAsDuesAreNotModified(t *testing.T) {
	for _, times := range goodTimes() {
		isKept := guard(&times, 7)
		impl.LateLines(times, times)
		impl.FewestLate(times, times)
		is(t, fmt.Sprint("kept ", len(times)), isKept(), true)
	}
}

func TestP1ChiselsShareNoMemory(t *testing.T) {
	shareNoMemory(t, chiselCases(), chiselCalls(), guardChisels)
}

func TestP1InvalidArgumentsOfChiselsComeFirst(t *testing.T) {
	// Everything else is wrong too, or nothing else is, or only a limit is passed.
	wrong := chiselArgs{alphabetStrokes(), exampleChisel(), nil, "AVE VIA", -1, []int64{0, 0}, nil, nil}
	right := chiselArgs{alphabetStrokes(), exampleChisel(), goodChisels(), "AVE VIA", 40, []int64{3, 2, 4, 1, 5, 0}, []int64{30}, []int64{30}}
	over := chiselArgs{alphabetStrokes(), exampleChisel(), slices.Repeat(goodChisels(), 3), "ABCDEFGHI", impl.MaxTime + 1, numbersBelow(10), nil, nil}
	texts := map[string]string{}
	for _, text := range badTexts() {
		texts[text] = text
	}
	for _, a := range []chiselArgs{wrong, right, over} {
		empty := a
		empty.text = ""
		for _, c := range chiselCalls() {
			for _, a := range []chiselArgs{a, empty} {
				if slices.Contains(chiselsWithStrokes, c.name) {
					areErrors(t, c, a, impl.ErrInvalid, badStrokes(), func(a *chiselArgs, s impl.Strokes) { a.strokes = s })
				}
				if slices.Contains(chiselsWithOne, c.name) {
					areErrors(t, c, a, impl.ErrInvalid, badChisels(), func(a *chiselArgs, one impl.Chisel) { a.chisel = one })
				}
			}
			if slices.Contains(chiselsWithText, c.name) {
				areErrors(t, c, a, impl.ErrInvalid, texts, func(a *chiselArgs, text string) { a.text = text })
			}
		}
	}
}

func TestP1TimesOutOfRangeComeAheadOfLimits(t *testing.T) {
	many := chiselArgs{times: manyTimes(13), due: manyTimes(13), num: 1}
	for _, c := range chiselCalls() {
		if !slices.Contains(chiselsWithTimes, c.name) {
			continue
		}
		isError(t, "too many", c, many, impl.ErrLimit)
		for _, times := range badTimes() {
			b := many
			b.times, b.due = times, manyTimes(len(times))
			isError(t, fmt.Sprint(len(times)), c, b, impl.ErrRange)
		}
		b := many
		b.num, b.due = 0, nil
		isError(t, "too many, and another one out of range", c, b, impl.ErrRange)
	}
}
