package tests

import (
	"fmt"
	"math/rand"
	"slices"
	"strings"
	"testing"

	"loop.example/g01398/impl"
)

// This file has what promise 16 says of all chapters together: a text is broken into lines, these are cut by several cutters, and rubbings are taken of them.

// partsWide adds up letters, the gaps that their cutter leaves, and spaces.
func partsWide(f impl.Face, text string) int64 {
	words := strings.Fields(text)
	wide := int64(f.Space) * max(int64(len(words))-1, 0)
	for _, word := range words {
		for _, letter := range word {
			wide += int64(f.Wide[letter-'A'])
		}
		gaps, _ := impl.GapsOf(f, word)
		wide += sumByHand(gaps)
	}
	return wide
}

// isAsWide looks at all functions that tell how wide a line is, or what there is in it.
func isAsWide(t *testing.T, f impl.Face, text string) {
	t.Helper()
	want := partsWide(f, text)
	wide, code := impl.LineWide(f, text)
	is(t, "LineWide of "+text, []any{wide, code}, []any{want, 0})
	is(t, "painted "+text, paintedWide(f, text), want)
	if text == "" {
		return
	}
	places, _ := impl.PlacesOf(f, text)
	right := places[len(places)-1] + int64(f.Wide[text[len(text)-1]-'A'])
	is(t, "right side of "+text, right, want)
	count := len(strings.Fields(text)) - 1
	breaks, uneven, code := impl.BestBreaks(f, text, impl.MaxWide)
	if want <= impl.MaxWide {
		is(t, "BestBreaks of one line "+text, []any{breaks, uneven, code}, []any{[]int64{}, 0, 0})
	}
	least, code := impl.LeastWide(f, text, 1)
	is(t, "LeastWide of "+text, []any{least, code}, []any{want, 0})
	ahead, code := impl.CentreLine(f, text, want)
	is(t, "CentreLine of "+text, []any{ahead, code}, []any{0, 0})
	if count > 0 {
		spaces, code := impl.JustifyLine(f, text, want)
		is(t, "JustifyLine of "+text, []any{spaces, code}, []any{slices.Repeat([]int64{int64(f.Space)}, count), 0})
		more := min(want+int64(len(text)), impl.MaxWide)
		spaces, _ = impl.JustifyLine(f, text, more)
		is(t, "justified "+text, want-int64(count)*int64(f.Space)+sumByHand(spaces), more)
	}
}

// breakings are all breaks of a text, those that are not right too.
func breakings(text string) [][]int64 { return allBreaks(len(strings.Fields(text))) }

// isLeastUneven looks that no right breaks are less uneven than told, and returns the lines.
func isLeastUneven(t *testing.T, f impl.Face, text string, wide int64) []string {
	t.Helper()
	best, uneven, code := impl.BestBreaks(f, text, wide)
	count := int64(0)
	for _, breaks := range breakings(text) {
		isRight, other := impl.CheckBreaks(f, text, wide, breaks)
		isCode(t, "CheckBreaks of "+text, other, impl.OK)
		if !isRight {
			continue
		}
		count++
		n, _ := impl.UnevenOf(f, text, wide, breaks)
		if code != impl.OK || n < uneven || n == uneven && slices.Compare(breaks, best) < 0 {
			t.Errorf("%q in %d: the breaks %v are uneven by %d, and the best ones %v by %d", text, wide, breaks, n, best, uneven)
		}
	}
	n, _ := impl.CountBreaks(f, text, wide)
	is(t, fmt.Sprint("CountBreaks of ", text, " in ", wide), n, count)
	if count == 0 {
		isCode(t, fmt.Sprint("BestBreaks of ", text, " in ", wide), code, impl.ErrNotFound, best, uneven)
		return nil
	}
	lines, code := impl.LinesOf(text, best)
	isCode(t, "LinesOf "+text, code, impl.OK)
	rooms, code := impl.RightRoom(f, text, wide, best)
	isCode(t, "RightRoom of "+text, code, impl.OK)
	sum := int64(0)
	for i, line := range lines {
		isAsWide(t, f, line)
		is(t, "room beside "+line, rooms[i], wide-partsWide(f, line))
		if i < len(lines)-1 {
			sum += rooms[i] * rooms[i]
		}
	}
	is(t, fmt.Sprint("BestBreaks of ", text, " in ", wide), uneven, sum)
	return lines
}

// hasLeastMost looks that no sharing has a lesser most than told; behind each other no cutter comes ahead of the one before.
func hasLeastMost(t *testing.T, times []int64, cutters int64) {
	t.Helper()
	inTurn, mostInTurn, code := impl.ShareLines(times, cutters)
	isCode(t, "ShareLines", code, impl.OK)
	mixed, most, code := impl.ShareAny(times, cutters)
	isCode(t, "ShareAny", code, impl.OK)
	is(t, fmt.Sprint("most of ", times), []int64{mostByHand(times, inTurn), mostByHand(times, mixed)}, []int64{mostInTurn, most})
	for _, shared := range listsOf(len(times), cutters) {
		n := mostByHand(times, shared)
		if n < most || n < mostInTurn && slices.IsSorted(shared) {
			t.Errorf("%v among %d: %v has a most of %d; told are %d, and %d behind each other", times, cutters, shared, n, most, mostInTurn)
		}
	}
}

// matchesNoBetter looks that no move matches better than told.
func matchesNoBetter(t *testing.T, a, b impl.Rubbing) {
	t.Helper()
	x, y, most := impl.BestMove(a, b)
	match, code := impl.MatchAt(a, b, x, y)
	is(t, fmt.Sprint("best move of ", a, " and ", b), []any{match, code}, []any{most, 0})
	for dy := int64(-impl.MaxMove); dy <= impl.MaxMove; dy++ {
		for dx := int64(-impl.MaxMove); dx <= impl.MaxMove; dx++ {
			if match, _ := impl.MatchAt(a, b, dx, dy); match > most {
				t.Errorf("%v and %v match by %d and %d with %d, and by %d and %d with %d", a, b, dx, dy, match, x, y, most)
			}
		}
	}
}

// rubbingOf has a dark dot for each place of a line on which a letter begins; it goes on in the next row.
func rubbingOf(f impl.Face, line string) impl.Rubbing {
	dots := dotSet{}
	places, _ := impl.PlacesOf(f, line)
	for _, place := range places {
		dots[dot{int(place) % impl.RubWide, int(place) / impl.RubWide}] = true
	}
	return dots.rubbed()
}

func TestP16Examples(t *testing.T) {
	isAsWide(t, exampleFace(), "AVE VIA")
	is(t, "parts of AVE VIA", partsWide(exampleFace(), "AVE VIA"), 72)
	for _, wide := range []int64{0, 9, 10, 21, 22, 49, 50, 51, 55, 56, 57, 77, 78, 93, 94, impl.MaxWide} {
		isLeastUneven(t, exampleFace(), "AA BB CC D", wide)
	}
	for cutters := int64(1); cutters <= impl.MaxCutters; cutters++ {
		hasLeastMost(t, []int64{30, 20, 40, 10}, cutters)
	}
	matchesNoBetter(t, dotted(dot{2, 1}, dot{3, 1}), dotted(dot{5, 3}, dot{6, 3}))
}

func TestP16LimitsAndNothing(t *testing.T) {
	f := exampleFace()
	for _, text := range []string{"", "A", "AV", "AVE", "A A", strings.Repeat("M", impl.MaxText), strings.Repeat("A ", 29) + "A", strings.Repeat("AV", 30)} {
		isAsWide(t, f, text)
		isAsWide(t, unevenFace(), text)
	}
	for _, text := range []string{"", "A", "AVE VIA", "A A A"} {
		for wide := range int64(80) {
			isLeastUneven(t, f, text, wide)
		}
	}
	for cutters := int64(1); cutters <= impl.MaxCutters; cutters++ {
		hasLeastMost(t, nil, cutters)
		hasLeastMost(t, []int64{impl.MaxTime}, cutters)
		hasLeastMost(t, slices.Repeat([]int64{7}, 6), cutters)
	}
	hasLeastMost(t, []int64{8, 7, 6, 5, 4, 3, 2, 1}, 3)
	hasLeastMost(t, []int64{impl.MaxTime, 1, impl.MaxTime, 1, impl.MaxTime, 1, 1, 1}, 4)
	for _, a := range someRubbings() {
		for _, b := range someRubbings() {
			matchesNoBetter(t, a, b)
		}
	}
}

func TestP16WhatIsNotValidHasNone(t *testing.T) {
	// No width, breaks or gaps of a face or text that is not valid.
	isInvalid := func(name string, f impl.Face, text string) {
		t.Helper()
		wide, code := impl.LineWide(f, text)
		isCode(t, "LineWide, "+name, code, impl.ErrInvalid, wide)
		spaces, code := impl.JustifyLine(f, text, 80)
		isCode(t, "JustifyLine, "+name, code, impl.ErrInvalid, spaces)
		breaks, uneven, code := impl.BestBreaks(f, text, 80)
		isCode(t, "BestBreaks, "+name, code, impl.ErrInvalid, breaks, uneven)
		gaps, code := impl.GapsOf(f, text)
		isCode(t, "GapsOf, "+name, code, impl.ErrInvalid, gaps)
	}
	for name, f := range badFaces() {
		isInvalid(name, f, "AVE")
	}
	for _, text := range badTexts() {
		isInvalid(text, exampleFace(), text)
	}
	for _, times := range badTimes() {
		shared, most, code := impl.ShareLines(times, 2)
		isCode(t, "ShareLines of bad times", code, impl.ErrRange, shared, most)
		shared, most, code = impl.ShareAny(times, 2)
		isCode(t, "ShareAny of bad times", code, impl.ErrRange, shared, most)
	}
	for _, far := range farMoves() {
		match, code := impl.MatchAt(allDark(), allDark(), far, 0)
		isCode(t, fmt.Sprint("MatchAt by ", far), code, impl.ErrRange, match)
	}
}

func TestP16TextsOfAllChaptersAreAsWide(t *testing.T) {
	r := rand.New(rand.NewSource(91))
	list := []impl.Short{{Long: "AB", Short: "A"}, {Long: "ABC", Short: "CB"}, {Long: "CA", Short: "D"}}
	for range rounds {
		f, text := someFace(r), randomText(r)
		isAsWide(t, f, text)
		for _, word := range strings.Fields(text) {
			wide, code := impl.WordWide(f, word)
			is(t, "WordWide of "+word, []any{wide, code}, []any{partsWide(f, word), 0})
		}
		short, _, code := impl.ShortenAll(text, list)
		isCode(t, "ShortenAll of "+text, code, impl.OK)
		isAsWide(t, f, short)
		turned, _ := impl.TurnText(strings.NewReplacer("A", "S", "B", "O", "C", "N", "D", "X").Replace(text))
		isAsWide(t, f, turned)
		n := r.Int63n(1000)
		number, code := impl.ShortestFor(impl.OldSystem(false), n)
		wide, other := impl.WidthOfNumber(f, impl.OldSystem(false), n)
		is(t, fmt.Sprint("WidthOfNumber of ", n), []any{wide, code, other}, []any{partsWide(f, number), 0, 0})
		pieces, code := impl.PiecesFor(f, impl.Sheet{Wide: 100}, text)
		isCode(t, "PiecesFor of "+text, code, impl.OK)
		letters := int64(0)
		for _, letter := range strings.ReplaceAll(text, " ", "") {
			letters += int64(f.Wide[letter-'A'])
		}
		is(t, "pieces of "+text, sumByHand(pieces), letters)
	}
}

func TestP16FromLinesToRubbings(t *testing.T) {
	r := rand.New(rand.NewSource(92))
	shared, rubbed := 0, 0
	for range rounds {
		f, text := someFace(r), randomFewWords(r, 8)
		wide := paintedWide(f, text) * r.Int63n(12) / 10
		lines := isLeastUneven(t, f, text, min(wide, impl.MaxWide))
		if len(lines) < 2 {
			continue
		}
		var times []int64
		for _, line := range lines {
			time, code := impl.TimeFor(randomStrokes(r), randomChisel(r), line)
			isCode(t, "TimeFor "+line, code, impl.OK)
			times = append(times, time)
		}
		hasLeastMost(t, times, int64(1+r.Intn([]int{6, 6, 6, 6, 6, 4, 3, 3, 3}[len(times)])))
		shared++
		for i := range lines[1:] {
			a, b := rubbingOf(f, lines[i]), rubbingOf(f, lines[i+1])
			matchesNoBetter(t, a, b)
			worn, _ := impl.WearOnce(b, int64(r.Intn(2)))
			matchesNoBetter(t, a, worn)
			rubbed++
		}
	}
	if shared < rounds/4 || rubbed < rounds/2 {
		t.Errorf("only %d texts are shared, and %d lines rubbed", shared, rubbed)
	}
}
