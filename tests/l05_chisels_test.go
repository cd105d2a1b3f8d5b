package tests

import (
	"fmt"
	"math"
	"slices"
	"strings"
	"testing"

	"loop.example/g01398/impl"
)

// This file has the example of chapter 5, and what the document says of single strokes, chisels and texts, one by one.

// allStrokes are as many for each letter.
func allStrokes(n int8) impl.Strokes {
	var s impl.Strokes
	for i := range s {
		s[i] = n
	}
	return s
}

// alphabetStrokes are 1 for "A", 2 for "B", and so on.
func alphabetStrokes() impl.Strokes {
	var s impl.Strokes
	for i := range s {
		s[i] = int8(i + 1)
	}
	return s
}

func exampleChisel() impl.Chisel { return impl.Chisel{Holds: 30, Sharpen: 5} }

func goodStrokes() []impl.Strokes {
	return []impl.Strokes{allStrokes(1), allStrokes(10), allStrokes(impl.MaxStroke), alphabetStrokes()}
}

// badStrokes are not valid, each ones for another reason.
func badStrokes() map[string]impl.Strokes {
	bad := map[string]impl.Strokes{"zero": {}, "all too many": allStrokes(impl.MaxStroke + 1)}
	for _, n := range []int8{0, -1, math.MinInt8, impl.MaxStroke + 1, math.MaxInt8} {
		for _, at := range []int{0, 12, 25} {
			s := alphabetStrokes()
			s[at] = n
			bad[fmt.Sprint(n, " at ", at)] = s
		}
	}
	return bad
}

func goodChisels() []impl.Chisel {
	return []impl.Chisel{exampleChisel(), {Holds: impl.MaxStroke, Sharpen: 0}, {Holds: impl.MaxStroke, Sharpen: 100}, {Holds: impl.MaxHolds, Sharpen: 0}, {Holds: impl.MaxHolds, Sharpen: 100}, {Holds: 31, Sharpen: 1}, {Holds: 999, Sharpen: 99}}
}

// badChisels are not valid, each one for another reason.
func badChisels() map[string]impl.Chisel {
	bad := map[string]impl.Chisel{"zero": {}}
	for _, n := range []int16{0, 1, impl.MaxStroke - 1, -1, -impl.MaxStroke, math.MinInt16, impl.MaxHolds + 1, math.MaxInt16} {
		bad[fmt.Sprint("holds ", n)] = impl.Chisel{Holds: n, Sharpen: 5}
	}
	for _, n := range []int8{-1, math.MinInt8, 101, math.MaxInt8} {
		bad[fmt.Sprint("sharpened in ", n)] = impl.Chisel{Holds: 30, Sharpen: n}
	}
	return bad
}

func TestP10StrokesAndChisels(t *testing.T) {
	for _, s := range goodStrokes() {
		is(t, fmt.Sprint("ValidStrokes ", s), impl.ValidStrokes(s), true)
	}
	for name, s := range badStrokes() {
		is(t, "ValidStrokes, "+name, impl.ValidStrokes(s), false)
	}
	for _, c := range goodChisels() {
		is(t, fmt.Sprint("ValidChisel ", c), impl.ValidChisel(c), true)
	}
	for name, c := range badChisels() {
		is(t, "ValidChisel, "+name, impl.ValidChisel(c), false)
	}
	is(t, "limits", []int{impl.MaxStroke, impl.MaxHolds, impl.MaxCutters, impl.MaxLines, impl.MaxTime}, []int{30, 1000, 6, 12, 100000})
	for n := math.MinInt8; n <= math.MaxInt8; n++ {
		is(t, fmt.Sprint("ValidStrokes ", n), impl.ValidStrokes(allStrokes(int8(n))), 1 <= n && n <= 30)
		is(t, fmt.Sprint("ValidChisel ", n), impl.ValidChisel(impl.Chisel{Holds: 30, Sharpen: int8(n)}), 0 <= n && n <= 100)
	}
	for n := math.MinInt16; n <= math.MaxInt16; n++ {
		is(t, fmt.Sprint("ValidChisel ", n), impl.ValidChisel(impl.Chisel{Holds: int16(n)}), 30 <= n && n <= 1000)
	}
}

// isCut looks at all that is told of a text: ahead of which letters the chisel is sharpened, and at which minutes the letters are done.
func isCut(t *testing.T, s impl.Strokes, c impl.Chisel, text string, sharpens []int64, done ...int64) {
	t.Helper()
	name := fmt.Sprint(" of ", text, " with ", c)
	times := append([]int64{0}, done...)
	last := times[len(done)]
	got, code := impl.SharpensFor(s, c, text)
	is(t, "SharpensFor"+name, []any{got, code}, []any{sharpens, 0})
	time, code := impl.TimeFor(s, c, text)
	is(t, "TimeFor"+name, []any{time, code}, []any{last, 0})
	strokes, code := impl.StrokesOf(s, text)
	is(t, "StrokesOf"+name, []any{strokes, code}, []any{last - int64(len(sharpens))*int64(c.Sharpen), 0})
	for i, at := range times {
		isCutUntil(t, s, c, text, at, int64(i))
		if i > 0 {
			isCutUntil(t, s, c, text, at-1, int64(i-1))
		}
	}
	isCutUntil(t, s, c, text, last+1, int64(len(done)))
	isCutUntil(t, s, c, text, impl.MaxTime, int64(len(done)))
	time, code = impl.CutInOrder(s, c, text, numbersBelow(len(done)))
	is(t, "CutInOrder"+name, []any{time, code}, []any{last, 0})
}

func isCutUntil(t *testing.T, s impl.Strokes, c impl.Chisel, text string, time, want int64) {
	t.Helper()
	letters, code := impl.CutUntil(s, c, text, time)
	is(t, fmt.Sprint("CutUntil ", time, " of ", text, " with ", c), []any{letters, code}, []any{want, 0})
}

func TestP10Example(t *testing.T) {
	s, c, text := allStrokes(10), exampleChisel(), "AVE VIA"
	isCut(t, s, c, text, []int64{3}, 10, 20, 30, 45, 55, 65)
	strokes, code := impl.StrokesOf(s, text)
	is(t, "StrokesOf", []any{strokes, code}, []any{60, 0})
	isCutUntil(t, s, c, text, 40, 3)
	isMiddleOut(t, text, 3, 2, 4, 1, 5, 0)
	time, code := impl.CutInOrder(s, c, text, []int64{3, 2, 4, 1, 5, 0})
	is(t, "CutInOrder", []any{time, code}, []any{65, 0})
}

func TestP10WhenAChiselIsSharpened(t *testing.T) {
	// Of the alphabet's strokes "J" takes 10, "K" 11, "T" 20, and "Z" 26.
	for _, c := range []struct {
		holds    int16
		text     string
		sharpens []int64
		done     []int64
	}{
		// Just as many strokes as it holds for, and one more.
		{30, "JJJ", nil, []int64{10, 20, 30}},
		{30, "JJK", []int64{2}, []int64{10, 20, 36}},
		{31, "JJK", nil, []int64{10, 20, 31}},
		{30, "JT", nil, []int64{10, 30}},
		{30, "JU", []int64{1}, []int64{10, 36}},
		{30, "KT", []int64{1}, []int64{11, 36}},
		{30, "JJJA", []int64{3}, []int64{10, 20, 30, 36}},
		{30, "ZDA", []int64{2}, []int64{26, 30, 36}},
		{30, "ZEA", []int64{1}, []int64{26, 36, 37}},
		// It is not sharpened within a letter, so that the strokes that it still had are lost.
		{30, "TTT", []int64{1, 2}, []int64{20, 45, 70}},
		{39, "TTT", []int64{1, 2}, []int64{20, 45, 70}},
		{40, "TTT", []int64{2}, []int64{20, 40, 65}},
		// Strokes count from the letter on ahead of which it was sharpened last, this included.
		{30, "JJJ JJJ JJJ", []int64{3, 6}, []int64{10, 20, 30, 45, 55, 65, 80, 90, 100}},
		{59, "TTTT", []int64{2}, []int64{20, 40, 65, 85}},
		{60, "TTTT", []int64{3}, []int64{20, 40, 60, 85}},
		{30, "TKJ", []int64{1}, []int64{20, 36, 46}},
		{30, "TKTJ", []int64{1, 2}, []int64{20, 36, 61, 71}},
		{30, "TKSA", []int64{1, 3}, []int64{20, 36, 55, 61}},
		{30, "AZAZ", []int64{3}, []int64{1, 27, 28, 59}},
		{30, "ZAZA", []int64{2}, []int64{26, 27, 58, 59}},
		{1000, "ZZZZ", nil, []int64{26, 52, 78, 104}},
		// No letters, and one.
		{30, "", nil, nil},
		{30, "A", nil, []int64{1}},
		{30, "Z", nil, []int64{26}},
		// A blank counts for nothing.
		{30, "J J J", nil, []int64{10, 20, 30}},
		{30, "J J K", []int64{2}, []int64{10, 20, 36}},
		{30, "J J J A", []int64{3}, []int64{10, 20, 30, 36}},
		{30, "TKT J", []int64{1, 2}, []int64{20, 36, 61, 71}},
	} {
		isCut(t, alphabetStrokes(), impl.Chisel{Holds: c.holds, Sharpen: 5}, c.text, c.sharpens, c.done...)
	}
}

func TestP10SharpeningTakesNoTimeOrLong(t *testing.T) {
	s := alphabetStrokes()
	isCut(t, s, impl.Chisel{Holds: 30, Sharpen: 0}, "TKTJ", []int64{1, 2}, 20, 31, 51, 61)
	isCut(t, s, impl.Chisel{Holds: 30, Sharpen: 1}, "TKTJ", []int64{1, 2}, 20, 32, 53, 63)
	isCut(t, s, impl.Chisel{Holds: 30, Sharpen: 100}, "TKTJ", []int64{1, 2}, 20, 131, 251, 261)
	isCut(t, s, impl.Chisel{Holds: 30, Sharpen: 100}, "JJJ", nil, 10, 20, 30)
}

// steadily are the minutes at which letters of as many strokes each are done, if there is some sharpening ahead of each letter of some.
func steadily(letters int, strokes, sharpen int64, sharpens ...int64) []int64 {
	var done []int64
	time := int64(0)
	for i := range letters {
		if slices.Contains(sharpens, int64(i)) {
			time += sharpen
		}
		time += strokes
		done = append(done, time)
	}
	return done
}

func TestP10FullTextsAtTheLimits(t *testing.T) {
	full := strings.Repeat("M", impl.MaxText)
	for _, c := range []struct {
		strokes  int8
		holds    int16
		sharpens []int64
	}{
		{1, impl.MaxStroke, []int64{30}},
		{1, 59, []int64{59}},
		{1, 60, nil},
		{1, impl.MaxHolds, nil},
		{impl.MaxStroke, impl.MaxStroke, numbersBelow(impl.MaxText)[1:]},
		{impl.MaxStroke, 59, numbersBelow(impl.MaxText)[1:]},
		{impl.MaxStroke, 600, []int64{20, 40}},
		{impl.MaxStroke, 989, []int64{32}},
		{impl.MaxStroke, 990, []int64{33}},
		{impl.MaxStroke, impl.MaxHolds, []int64{33}},
		{29, impl.MaxHolds, []int64{34}},
		{25, impl.MaxHolds, []int64{40}},
		{17, impl.MaxHolds, []int64{58}},
		{16, impl.MaxHolds, nil},
	} {
		for _, sharpen := range []int8{0, 7, 100} {
			isCut(t, allStrokes(c.strokes), impl.Chisel{Holds: c.holds, Sharpen: sharpen}, full, c.sharpens, steadily(impl.MaxText, int64(c.strokes), int64(sharpen), c.sharpens...)...)
		}
	}
}

func TestP10EachLetterHasItsStrokes(t *testing.T) {
	for i, l := range strings.Split("ABCDEFGHIJKLMNOPQRSTUVWXYZ", "") {
		isCut(t, alphabetStrokes(), exampleChisel(), l, nil, int64(i+1))
		strokes, code := impl.StrokesOf(alphabetStrokes(), l+" "+l+l)
		is(t, "StrokesOf three "+l, []any{strokes, code}, []any{3 * (i + 1), 0})
	}
	strokes, code := impl.StrokesOf(alphabetStrokes(), "ABCDEFGHIJKLM NOPQRSTUVWXYZ")
	is(t, "StrokesOf the alphabet", []any{strokes, code}, []any{351, 0})
}

func TestP10TimesThatAreNone(t *testing.T) {
	s, c := alphabetStrokes(), exampleChisel()
	for _, time := range []int64{-1, math.MinInt64, impl.MaxTime + 1, math.MaxInt64, 1 << 32, -(1 << 32)} {
		for _, text := range []string{"", "A", "AVE VIA"} {
			letters, code := impl.CutUntil(s, c, text, time)
			isCode(t, fmt.Sprint("CutUntil ", time), code, impl.ErrRange, letters)
		}
		letters, code := impl.CutUntil(s, c, "a", time)
		isCode(t, fmt.Sprint("CutUntil of no text ", time), code, impl.ErrInvalid, letters)
	}
	isCutUntil(t, s, c, "", 0, 0)
	isCutUntil(t, s, c, "AVE", 0, 0)
	isCutUntil(t, s, c, "AVE", impl.MaxTime, 3)
	// Nothing is cut while the chisel is sharpened.
	for time := int64(30); time < 45; time++ {
		isCutUntil(t, allStrokes(10), c, "AVE VIA", time, 3)
	}
}

func isMiddleOut(t *testing.T, text string, want ...int64) {
	t.Helper()
	order, code := impl.MiddleOut(text)
	is(t, "MiddleOut "+text, []any{order, code}, []any{want, 0})
}

func TestP10MiddleOut(t *testing.T) {
	isMiddleOut(t, "")
	isMiddleOut(t, "A", 0)
	isMiddleOut(t, "AB", 1, 0)
	isMiddleOut(t, "ABC", 1, 0, 2)
	isMiddleOut(t, "ABCD", 2, 1, 3, 0)
	isMiddleOut(t, "ABCDE", 2, 1, 3, 0, 4)
	isMiddleOut(t, "AVE VIA", 3, 2, 4, 1, 5, 0)
	isMiddleOut(t, "AVEVIAM", 3, 2, 4, 1, 5, 0, 6)
	isMiddleOut(t, "A B", 1, 0)
	isMiddleOut(t, "A B C", 1, 0, 2)
	isMiddleOut(t, "AAAA B C", 3, 2, 4, 1, 5, 0)
	for _, text := range badTexts() {
		order, code := impl.MiddleOut(text)
		isCode(t, fmt.Sprintf("MiddleOut %q", text), code, impl.ErrInvalid, order)
	}
}

func TestP10Orders(t *testing.T) {
	// "A" takes 20 strokes, and all others 10.
	s := allStrokes(10)
	s[0] = 20
	for _, c := range []struct {
		text  string
		order []int64
		want  int64
	}{
		{"AABB", []int64{0, 1, 2, 3}, 70}, {"AABB", []int64{0, 2, 1, 3}, 65}, {"AABB", []int64{2, 0, 3, 1}, 65}, {"AABB", []int64{2, 3, 0, 1}, 70}, {"AABB", []int64{3, 0, 1, 2}, 65}, {"A A BB", []int64{1, 3, 2, 0}, 65}, {"A A BB", []int64{1, 0, 3, 2}, 70}, {"ABA", []int64{0, 2, 1}, 55}, {"ABA", []int64{2, 1, 0}, 55}, {"BBB", []int64{2, 0, 1}, 30}, {"A", []int64{0}, 20}, {"", nil, 0}, {"", []int64{}, 0},
	} {
		time, code := impl.CutInOrder(s, exampleChisel(), c.text, c.order)
		is(t, fmt.Sprint("CutInOrder ", c.text, c.order), []any{time, code}, []any{c.want, 0})
	}
	full := numbersBelow(impl.MaxText)
	slices.Reverse(full)
	time, code := impl.CutInOrder(s, exampleChisel(), strings.Repeat("B", impl.MaxText), full)
	is(t, "CutInOrder of a full text", []any{time, code}, []any{600 + 19*5, 0})
}

func TestP10OrdersThatAreNone(t *testing.T) {
	s, c := allStrokes(10), exampleChisel()
	isNone := func(text string, order ...int64) {
		t.Helper()
		time, code := impl.CutInOrder(s, c, text, order)
		isCode(t, fmt.Sprint("CutInOrder ", text, order), code, impl.ErrState, time)
		for _, bad := range badTexts() {
			time, code = impl.CutInOrder(s, c, bad, order)
			isCode(t, fmt.Sprint("CutInOrder of no text ", order), code, impl.ErrInvalid, time)
		}
	}
	isNone("AB", 0, 0)
	isNone("AB", 1, 1)
	isNone("ABC", 0, 1, 1)
	isNone("ABC", 2, 0, 2)
	isNone("AB")
	isNone("AB", 0)
	isNone("AB", 1)
	isNone("AB", 0, 1, 0)
	isNone("AB", 0, 1, 1)
	isNone("AB", 0, 1, 2)
	isNone("", 0)
	isNone("A", 1)
	isNone("A B", 0, 1, 2) // the blank is no letter
	isNone("A B", 0, 2)
	for _, index := range []int64{-1, 3, 4, 60, 256, 1 << 32, math.MaxInt64, math.MinInt64} {
		isNone("ABC", index, 1, 2)
		isNone("ABC", 0, 1, index)
		isNone("ABC", index, index, index)
		isNone("ABC", 0, 1, 2, index)
	}
	isNone("ABC", slices.Repeat([]int64{0, 1, 2}, 1000)...)
	isNone(strings.Repeat("A", impl.MaxText), numbersBelow(impl.MaxText-1)...)
	isNone(strings.Repeat("A", impl.MaxText), numbersBelow(impl.MaxText+1)...)
}

func TestP10LeastTimes(t *testing.T) {
	// With the alphabet's strokes, and a chisel that holds 30 and takes 5.
	for _, c := range []struct {
		text         string
		inTurn, want int64
	}{
		{"", 0, 0}, {"A", 1, 1}, {"Z", 26, 26}, {"JJJ", 30, 30}, {"JJK", 36, 36},
		{"TTT", 70, 70}, // no two letters go together, though all are only 60
		{"TTJJ", 70, 65}, {"TJTJ", 65, 65}, {"JJTT", 70, 65}, {"T T JJ", 70, 65},
		{"AAZZ", 59, 59}, {"ZAAZ", 59, 59},
		{"TTTTJJJJ", 140, 135}, {"T T T T J J J J", 140, 135}, {"JTJTJTJT", 135, 135},
		{"PRTONLOJ", 145, 135}, // P and N, R and L, T and J, O and O
		{"ABCDEFGH", 41, 41}, {"HHHHHHHH", 74, 74}, {"ZZZZZZZZ", 243, 243},
	} {
		time, code := impl.TimeFor(alphabetStrokes(), exampleChisel(), c.text)
		is(t, "TimeFor "+c.text, []any{time, code}, []any{c.inTurn, 0})
		time, code = impl.LeastTime(alphabetStrokes(), exampleChisel(), c.text)
		is(t, "LeastTime "+c.text, []any{time, code}, []any{c.want, 0})
	}
	for _, c := range []struct {
		chisel impl.Chisel
		want   int64
	}{
		{impl.Chisel{Holds: 30, Sharpen: 0}, 120}, {impl.Chisel{Holds: 30, Sharpen: 100}, 420}, {impl.Chisel{Holds: 59, Sharpen: 100}, 320}, {impl.Chisel{Holds: 60, Sharpen: 100}, 220}, {impl.Chisel{Holds: 119, Sharpen: 100}, 220}, {impl.Chisel{Holds: 120, Sharpen: 100}, 120}, {impl.Chisel{Holds: impl.MaxHolds, Sharpen: 100}, 120},
	} {
		time, code := impl.LeastTime(alphabetStrokes(), c.chisel, "TTTTJJJJ")
		is(t, fmt.Sprint("LeastTime with ", c.chisel), []any{time, code}, []any{c.want, 0})
	}
}

func TestP10LeastTimesOfTooManyLetters(t *testing.T) {
	s, c := alphabetStrokes(), exampleChisel()
	for _, text := range []string{"ABCDEFGHI", "A B C D E F G H I", "AAAAAAAAA", "AAAA AAAAA", strings.Repeat("A", impl.MaxText)} {
		time, code := impl.LeastTime(s, c, text)
		isCode(t, "LeastTime "+text, code, impl.ErrLimit, time)
		for name, bad := range badStrokes() {
			time, code = impl.LeastTime(bad, c, text)
			isCode(t, "LeastTime "+text+", "+name, code, impl.ErrInvalid, time)
		}
		for name, bad := range badChisels() {
			time, code = impl.LeastTime(s, bad, text)
			isCode(t, "LeastTime "+text+", "+name, code, impl.ErrInvalid, time)
		}
		time, code = impl.LeastTime(s, c, text+" ")
		isCode(t, "LeastTime "+text+" with a blank", code, impl.ErrInvalid, time)
	}
}

func isBestChisel(t *testing.T, text string, list []impl.Chisel, index, time int64) {
	t.Helper()
	best, least, code := impl.BestChisel(allStrokes(10), list, text)
	is(t, fmt.Sprint("BestChisel ", list, " for ", text), []any{best, least, code}, []any{index, time, 0})
}

func TestP10BestChisels(t *testing.T) {
	text := "AVE VIA"
	isBestChisel(t, text, []impl.Chisel{{Holds: 30, Sharpen: 5}, {Holds: 60, Sharpen: 90}}, 1, 60)
	isBestChisel(t, text, []impl.Chisel{{Holds: 60, Sharpen: 90}, {Holds: 30, Sharpen: 5}}, 0, 60)
	isBestChisel(t, text, []impl.Chisel{{Holds: 59, Sharpen: 90}, {Holds: 30, Sharpen: 5}}, 1, 65)
	isBestChisel(t, text, []impl.Chisel{{Holds: 30, Sharpen: 5}}, 0, 65)
	// Several take as long.
	isBestChisel(t, text, []impl.Chisel{{Holds: 30, Sharpen: 5}, {Holds: 30, Sharpen: 5}}, 0, 65)
	isBestChisel(t, text, []impl.Chisel{{Holds: 40, Sharpen: 6}, {Holds: 40, Sharpen: 5}, {Holds: 30, Sharpen: 5}}, 1, 65)
	isBestChisel(t, text, []impl.Chisel{{Holds: 30, Sharpen: 6}, {Holds: 60, Sharpen: 100}, {Holds: 30, Sharpen: 0}, {Holds: 60, Sharpen: 0}}, 1, 60)
	isBestChisel(t, "", goodChisels(), 0, 0)
	isBestChisel(t, "A", goodChisels(), 0, 10)
	twenty := append(slices.Repeat([]impl.Chisel{exampleChisel()}, 19), impl.Chisel{Holds: 60, Sharpen: 100})
	isBestChisel(t, text, twenty, 19, 60)
	isBestChisel(t, "AVE", twenty, 0, 30)
}

func TestP10ListsOfChiselsWithErrors(t *testing.T) {
	s, text := allStrokes(10), "AVE VIA"
	isNone := func(name string, s impl.Strokes, list []impl.Chisel, text string, want int64) {
		t.Helper()
		best, time, code := impl.BestChisel(s, list, text)
		isCode(t, "BestChisel, "+name, code, want, best, time)
	}
	many := slices.Repeat([]impl.Chisel{exampleChisel()}, 21)
	isNone("none", s, nil, text, impl.ErrNotFound)
	isNone("none", s, []impl.Chisel{}, "", impl.ErrNotFound)
	isNone("too many", s, many, text, impl.ErrLimit)
	isNone("too many", s, many, "", impl.ErrLimit)
	isNone("far too many", s, slices.Repeat(many, 100), text, impl.ErrLimit)
	for name, c := range badChisels() {
		isNone(name, s, []impl.Chisel{c}, text, impl.ErrInvalid)
		isNone(name+", first", s, []impl.Chisel{c, exampleChisel()}, text, impl.ErrInvalid)
		isNone(name+", last of just 20", s, append(many[:19:19], c), text, impl.ErrInvalid)
		isNone(name+", last of too many", s, append(many[:20:20], c), text, impl.ErrInvalid)
	}
	for _, list := range [][]impl.Chisel{nil, many[:1], many} {
		for name, bad := range badStrokes() {
			isNone(name, bad, list, text, impl.ErrInvalid)
		}
		for _, bad := range badTexts() {
			isNone(bad, s, list, bad, impl.ErrInvalid)
		}
	}
}

// strokesText writes strokes, valid or not.
func strokesText(s impl.Strokes) string { return strings.Trim(fmt.Sprint(s), "[]") }

func TestP10TextsOfStrokes(t *testing.T) {
	is(t, "StrokesText", impl.StrokesText(alphabetStrokes()), "1 2 3 4 5 6 7 8 9 10 11 12 13 14 15 16 17 18 19 20 21 22 23 24 25 26")
	is(t, "StrokesText of MaxStroke", impl.StrokesText(allStrokes(30)), "30 30 30 30 30 30 30 30 30 30 30 30 30 30 30 30 30 30 30 30 30 30 30 30 30 30")
	for _, s := range goodStrokes() {
		text := strokesText(s)
		is(t, "StrokesText", impl.StrokesText(s), text)
		read, code := impl.ReadStrokes(text)
		is(t, "ReadStrokes "+text, []any{read, code}, []any{s, 0})
	}
	for name, s := range badStrokes() {
		is(t, "StrokesText, "+name, impl.StrokesText(s), "")
		read, code := impl.ReadStrokes(strokesText(s))
		isCode(t, "ReadStrokes, "+name, code, impl.ErrSyntax, read)
	}
}

func TestP10TextsOfNoStrokes(t *testing.T) {
	isNone := func(text string) {
		t.Helper()
		read, code := impl.ReadStrokes(text)
		isCode(t, fmt.Sprintf("ReadStrokes %q", text), code, impl.ErrSyntax, read)
	}
	right := strokesText(alphabetStrokes())
	for _, text := range []string{
		"", " ", "1", "1 2", "x", right[:len(right)-3], right[2:], right + " 1", right + " 27", "1 " + right, right + " ", " " + right, right + "\n", right + "\x00", right + ";", "[" + right + "]", right + " " + right, right + right,
		strings.ReplaceAll(right, " ", ","), strings.ReplaceAll(right, " ", "  "), strings.ReplaceAll(right, " ", "\t"), strings.Replace(right, " ", "  ", 1), strings.Replace(right, " ", "\n", 1), strings.Replace(right, " 25", "", 1), strings.Repeat(" ", 25), strings.Repeat("0 ", 25) + "0",
	} {
		isNone(text)
	}
	for _, number := range []string{"", "0", "00", "01", "001", "+1", "-1", "-0", "31", "127", "128", "129", "256", "257", "266", "65537", "4294967297", "18446744073709551617", "99999999999999999999", "1e1", "0x1", "1_0", "1.0", "a", "A", "1a", "?", "١", "１", "1 ", " 1", "\x01"} {
		isNone(number + right[1:])
		isNone(strings.Replace(right, " 13 ", " "+number+" ", 1))
		isNone(strings.TrimSuffix(right, "26") + number)
	}
}
