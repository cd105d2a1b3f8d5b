package tests

import (
	"fmt"
	"math/rand"
	"regexp"
	"slices"
	"strconv"
	"strings"
	"testing"

	"loop.example/g01398/impl"
)

// This file holds chapter 5 against simple programs of another kind: what is done is written down minute by minute, letters are put into groups, and all sharings and orders are tried.

func randomStrokes(r *rand.Rand) impl.Strokes {
	var s impl.Strokes
	most := []int{1, 3, 12, impl.MaxStroke}[r.Intn(4)]
	for i := range s {
		s[i] = int8(1 + r.Intn(most))
	}
	if r.Intn(3) == 0 {
		for i := range s {
			s[i] = impl.MaxStroke + 1 - s[i]
		}
	}
	return s
}

func randomChisel(r *rand.Rand) impl.Chisel {
	holds := impl.MaxStroke + r.Intn([]int{1, 10, 100, impl.MaxHolds - impl.MaxStroke + 1}[r.Intn(4)])
	return impl.Chisel{Holds: int16(holds), Sharpen: int8([]int{0, r.Intn(10), r.Intn(101), 100}[r.Intn(4)])}
}

// diary tells of each minute which letter is cut in it, or that the chisel is sharpened.
type diary struct {
	minutes  []int64
	sharpens []int64
}

const sharpening = -1

// diaryOf writes what is done if letters are cut in an order.
func diaryOf(s impl.Strokes, c impl.Chisel, text string, order []int64) diary {
	letters := strings.Join(strings.Fields(text), "")
	var d diary
	since := 0 // where in the diary the chisel was sharp last
	for _, i := range order {
		strokes := int(s[strings.IndexByte("ABCDEFGHIJKLMNOPQRSTUVWXYZ", letters[i])])
		if len(d.minutes)+strokes-since > int(c.Holds) {
			d.minutes = append(d.minutes, slices.Repeat([]int64{sharpening}, int(c.Sharpen))...)
			d.sharpens = append(d.sharpens, i)
			since = len(d.minutes)
		}
		d.minutes = append(d.minutes, slices.Repeat([]int64{i}, strokes)...)
	}
	return d
}

func (d diary) strokes() int {
	strokes := 0
	for _, i := range d.minutes {
		if i != sharpening {
			strokes++
		}
	}
	return strokes
}

// cutBy are the letters of which no stroke is left behind some minutes.
func (d diary) cutBy(letters, minutes int) int {
	minutes = min(minutes, len(d.minutes))
	for i := range int64(letters) {
		if slices.Contains(d.minutes[minutes:], i) {
			letters--
		}
	}
	return letters
}

func countByHand(text string) int { return len(text) - strings.Count(text, " ") }

func TestP10DiariesMinuteByMinute(t *testing.T) {
	r := rand.New(rand.NewSource(41))
	for range rounds {
		s, c, text := randomStrokes(r), randomChisel(r), randomText(r)
		letters := countByHand(text)
		name := fmt.Sprint(" of ", text, s, c)
		d := diaryOf(s, c, text, numbersBelow(letters))
		strokes, code := impl.StrokesOf(s, text)
		is(t, "StrokesOf"+name, []any{strokes, code}, []any{d.strokes(), 0})
		sharpens, code := impl.SharpensFor(s, c, text)
		is(t, "SharpensFor"+name, []any{sharpens, code}, []any{d.sharpens, 0})
		time, code := impl.TimeFor(s, c, text)
		is(t, "TimeFor"+name, []any{time, code}, []any{len(d.minutes), 0})
		for range 20 {
			minutes := r.Intn(len(d.minutes) + 2)
			cut, code := impl.CutUntil(s, c, text, int64(minutes))
			is(t, fmt.Sprint("CutUntil ", minutes, name), []any{cut, code}, []any{d.cutBy(letters, minutes), 0})
		}
		order := randomOrder(r, letters)
		time, code = impl.CutInOrder(s, c, text, order)
		is(t, fmt.Sprint("CutInOrder ", order, name), []any{time, code}, []any{len(diaryOf(s, c, text, order).minutes), 0})
	}
}

func randomOrder(r *rand.Rand, n int) []int64 {
	order := numbersBelow(n)
	r.Shuffle(n, func(i, j int) { order[i], order[j] = order[j], order[i] })
	return order
}

func TestP10LettersAreCutMinuteByMinute(t *testing.T) {
	r := rand.New(rand.NewSource(42))
	for range rounds / 10 {
		s, c, text := randomStrokes(r), randomChisel(r), randomText(r)
		letters := countByHand(text)
		d := diaryOf(s, c, text, numbersBelow(letters))
		for minutes := range len(d.minutes) + 2 {
			cut, code := impl.CutUntil(s, c, text, int64(minutes))
			is(t, fmt.Sprint("CutUntil ", minutes, " of ", text, s, c), []any{cut, code}, []any{d.cutBy(letters, minutes), 0})
		}
	}
}

func TestP10SomethingAddedToAnOrderIsNone(t *testing.T) {
	r := rand.New(rand.NewSource(43))
	for range rounds {
		s, c, text := randomStrokes(r), randomChisel(r), randomText(r)
		letters := countByHand(text)
		order := randomOrder(r, letters)
		at := r.Intn(letters + 1)
		wrong := slices.Insert(slices.Clone(order), at, int64(r.Intn(letters+2)-1))
		switch {
		case letters > 0 && r.Intn(3) == 0:
			wrong = slices.Delete(order, at/2, at/2+1)
		case letters > 1 && r.Intn(2) == 0:
			wrong = order
			wrong[0] = wrong[1+r.Intn(letters-1)]
		}
		time, code := impl.CutInOrder(s, c, text, wrong)
		isCode(t, fmt.Sprint("CutInOrder ", wrong, " of ", text), code, impl.ErrState, time)
	}
}

// middleOutByHand walks to the left and to the right by turns, until a side ends.
func middleOutByHand(n int64) []int64 {
	var order []int64
	if n > 0 {
		order = append(order, n/2)
	}
	left, right := n/2-1, n/2+1
	for left >= 0 && right < n {
		order = append(order, left, right)
		left, right = left-1, right+1
	}
	for ; left >= 0; left-- {
		order = append(order, left)
	}
	for ; right < n; right++ {
		order = append(order, right)
	}
	return order
}

func TestP10AllTextsFromTheMiddleOut(t *testing.T) {
	r := rand.New(rand.NewSource(44))
	for n := range impl.MaxText + 1 {
		isMiddleOut(t, strings.Repeat("A", n), middleOutByHand(int64(n))...)
	}
	for range rounds {
		text := randomText(r)
		order := middleOutByHand(int64(countByHand(text)))
		isMiddleOut(t, text, order...)
		s, c := randomStrokes(r), randomChisel(r)
		time, code := impl.CutInOrder(s, c, text, order)
		is(t, "CutInOrder from the middle out "+text, []any{time, code}, []any{len(diaryOf(s, c, text, order).minutes), 0})
	}
}

// fewestGroups is the least number of groups with a sum of at most room: each size is put into each group that there is, and into one of its own.
func fewestGroups(sizes, groups []int, room int) int {
	if len(sizes) == 0 {
		return len(groups)
	}
	fewest := fewestGroups(sizes[1:], append(slices.Clone(groups), sizes[0]), room)
	for i := range groups {
		if groups[i]+sizes[0] <= room {
			groups[i] += sizes[0]
			fewest = min(fewest, fewestGroups(sizes[1:], groups, room))
			groups[i] -= sizes[0]
		}
	}
	return fewest
}

// leastTimeByHand: whatever the order is, the letters between sharpenings are groups, and any groups can be cut one after the other.
func leastTimeByHand(s impl.Strokes, c impl.Chisel, text string) int64 {
	var sizes []int
	sum := int64(0)
	for _, l := range strings.Join(strings.Fields(text), "") {
		n := s[l-'A']
		sizes = append(sizes, int(n))
		sum += int64(n)
	}
	groups := fewestGroups(sizes, nil, int(c.Holds))
	return sum + int64(max(groups-1, 0))*int64(c.Sharpen)
}

// randomFewLetters have at most so many, between which there may be blanks.
func randomFewLetters(r *rand.Rand, most int) string {
	letters := []int{3, 8, 26}[r.Intn(3)]
	text := ""
	for range r.Intn(most + 1) {
		if text != "" && r.Intn(4) == 0 {
			text += " "
		}
		text += string(rune('A' + r.Intn(letters)))
	}
	return text
}

// tightWork has strokes and a chisel with which about two letters go together, so that their order matters.
func tightWork(r *rand.Rand) (impl.Strokes, impl.Chisel) {
	var s impl.Strokes
	for i := range s {
		s[i] = int8(6 + r.Intn(18))
	}
	return s, impl.Chisel{Holds: int16(impl.MaxStroke + r.Intn(12)), Sharpen: int8(1 + r.Intn(100))}
}

func TestP10NoOrderTakesLessThanTheLeastTime(t *testing.T) {
	r := rand.New(rand.NewSource(45))
	better := 0
	for i := range rounds {
		s, c, text := randomStrokes(r), randomChisel(r), randomFewLetters(r, 6)
		if i%4 > 0 {
			s, c = tightWork(r)
		}
		name := fmt.Sprint(" of ", text, s, c)
		least, code := impl.LeastTime(s, c, text)
		is(t, "LeastTime"+name, []any{least, code}, []any{leastTimeByHand(s, c, text), 0})
		var times []int64
		for _, order := range ordersOf(countByHand(text)) {
			if len(order) == countByHand(text) {
				time, code := impl.CutInOrder(s, c, text, order)
				is(t, fmt.Sprint("code of CutInOrder ", order, name), code, 0)
				times = append(times, time)
			}
		}
		is(t, "least CutInOrder"+name, slices.Min(times), least)
		if times[0] > least {
			better++
		}
	}
	if better < rounds/20 {
		t.Errorf("only %d texts are better cut in another order", better)
	}
}

func TestP10LeastTimesByGroups(t *testing.T) {
	r := rand.New(rand.NewSource(46))
	for i := range rounds {
		s, c, text := randomStrokes(r), randomChisel(r), randomFewLetters(r, 8)
		if i%4 > 0 {
			s, c = tightWork(r)
		}
		least, code := impl.LeastTime(s, c, text)
		is(t, fmt.Sprint("LeastTime of ", text, s, c), []any{least, code}, []any{leastTimeByHand(s, c, text), 0})
	}
}

func TestP10BestChiselsByHand(t *testing.T) {
	r := rand.New(rand.NewSource(47))
	for range rounds {
		s, text := randomStrokes(r), randomText(r)
		var list []impl.Chisel
		var times []int
		for range 1 + r.Intn(20) {
			c := randomChisel(r)
			list = append(list, c)
			times = append(times, len(diaryOf(s, c, text, numbersBelow(countByHand(text))).minutes))
		}
		least := slices.Min(times)
		best, time, code := impl.BestChisel(s, list, text)
		is(t, fmt.Sprint("BestChisel of ", list, " for ", text, s), []any{best, time, code}, []any{slices.Index(times, least), least, 0})
	}
}

func randomTimes(r *rand.Rand, most int) []int64 {
	greatest := []int{1, 4, 30, impl.MaxTime}[r.Intn(4)]
	var times []int64
	for range r.Intn(most + 1) {
		times = append(times, int64(1+r.Intn(greatest)))
	}
	return times
}

// listsOf are all lists of so many numbers less than below, in their order as lists.
func listsOf(long int, below int64) [][]int64 {
	lists := [][]int64{{}}
	for range long {
		var longer [][]int64
		for _, list := range lists {
			for n := range below {
				longer = append(longer, append(slices.Clone(list), n))
			}
		}
		lists = longer
	}
	return lists
}

func mostByHand(times, shared []int64) int64 {
	sums := map[int64]int64{}
	most := int64(0)
	for i, cutter := range shared {
		sums[cutter] += times[i]
		most = max(most, sums[cutter])
	}
	return most
}

func TestP11NoSharingHasALesserMost(t *testing.T) {
	r := rand.New(rand.NewSource(48))
	for range rounds {
		cutters := int64(1 + r.Intn(impl.MaxCutters))
		times := randomTimes(r, []int{0, 8, 8, 6, 5, 5, 4}[cutters])
		var inTurn, mixed []int64
		leastInTurn, leastMixed := int64(-1), int64(-1)
		for _, shared := range listsOf(len(times), cutters) {
			most := mostByHand(times, shared)
			if leastMixed < 0 || most < leastMixed {
				mixed, leastMixed = shared, most
			}
			if slices.IsSorted(shared) && (leastInTurn < 0 || most < leastInTurn) {
				inTurn, leastInTurn = shared, most
			}
		}
		areLinesShared(t, times, cutters, leastInTurn, inTurn...)
		areAnyShared(t, times, cutters, leastMixed, mixed...)
	}
}

func TestP11JustAsManyLinesAndCutters(t *testing.T) {
	// There are more than a million lists.
	r := rand.New(rand.NewSource(49))
	var cases [][]int64
	for range 3 {
		times := randomTimes(r, 8)
		for len(times) < 8 {
			times = append(times, int64(1+r.Intn(40)))
		}
		cases = append(cases, times)
	}
	best, least := make([][]int64, len(cases)), make([]int64, len(cases))
	shared := make([]int64, 8)
	for n := range 1679616 {
		for i, rest := 7, n; i >= 0; i-- {
			shared[i], rest = int64(rest%6), rest/6
		}
		for i, times := range cases {
			var sums [6]int64
			for j, cutter := range shared {
				sums[cutter] += times[j]
			}
			if most := slices.Max(sums[:]); best[i] == nil || most < least[i] {
				best[i], least[i] = slices.Clone(shared), most
			}
		}
	}
	for i, times := range cases {
		areAnyShared(t, times, 6, least[i], best[i]...)
	}
}

// inTurnByHand gives each cutter as many lines as most lets him have; false if some are left.
func inTurnByHand(times []int64, cutters, most int64) ([]int64, bool) {
	var shared []int64
	cutter, sum := int64(0), int64(0)
	for _, time := range times {
		if sum+time > most {
			cutter, sum = cutter+1, 0
		}
		if cutter == cutters || time > most {
			return nil, false
		}
		sum += time
		shared = append(shared, cutter)
	}
	return shared, true
}

func TestP11ManyLinesBehindEachOther(t *testing.T) {
	// The least most is the sum of some lines behind each other; with one minute less there is no way.
	r := rand.New(rand.NewSource(50))
	for range 5 * rounds {
		times, cutters := randomTimes(r, impl.MaxLines), int64(1+r.Intn(impl.MaxCutters))
		sums := []int64{0}
		for i := range times {
			sum := int64(0)
			for _, time := range times[i:] {
				sum += time
				sums = append(sums, sum)
			}
		}
		slices.Sort(sums)
		for _, most := range sums {
			if shared, can := inTurnByHand(times, cutters, most); can {
				areLinesShared(t, times, cutters, most, shared...)
				break
			}
		}
	}
}

func TestP11DaysByHand(t *testing.T) {
	r := rand.New(rand.NewSource(51))
	for range 5 * rounds {
		times := append(randomTimes(r, impl.MaxLines-1), int64(1+r.Intn(30)))
		r.Shuffle(len(times), func(i, j int) { times[i], times[j] = times[j], times[i] })
		longest := slices.Max(times)
		day := min(longest+int64(r.Intn(int(2*longest))), impl.MaxTime)
		name := fmt.Sprint("DaysFor ", times, " of ", day)
		days, count, code := impl.DaysFor(times, day)
		is(t, name, []any{len(days), days[0], days[len(days)-1] + 1, code}, []any{len(times), 0, count, 0})
		sums := map[int64]int64{}
		for i, at := range days {
			if i > 0 {
				stays := sums[days[i-1]]+times[i] <= day
				is(t, fmt.Sprint(name, ", the line ", i, " stays"), []any{at == days[i-1], at == days[i-1]+1}, []any{stays, !stays})
			}
			sums[at] += times[i]
		}
		if longest > 1 {
			days, count, code = impl.DaysFor(times, longest-1)
			isCode(t, name+", but a minute too short", code, impl.ErrNotFound, days, count)
		}
	}
}

// randomDues are often just when a line is ready in some order.
func randomDues(r *rand.Rand, times []int64) []int64 {
	due := make([]int64, len(times))
	ready := int64(0)
	for _, i := range randomOrder(r, len(times)) {
		ready += times[i]
		due[i] = max(0, ready+int64([]int{0, 0, 0, -1, 1, -20, 20, r.Intn(100) - 50}[r.Intn(8)]))
	}
	return due
}

// lateByHand are the lines of an order that are late; all lines ahead of each one are added anew.
func lateByHand(times, due, order []int64) []int64 {
	var late []int64
	for i, line := range order {
		ready := int64(0)
		for _, other := range order[:i+1] {
			ready += times[other]
		}
		if ready > due[line] {
			late = append(late, line)
		}
	}
	return late
}

func TestP11LateLinesByHand(t *testing.T) {
	r := rand.New(rand.NewSource(52))
	for range 5 * rounds {
		times := randomTimes(r, impl.MaxLines)
		due := randomDues(r, times)
		areLate(t, times, due, lateByHand(times, due, numbersBelow(len(times)))...)
	}
}

// mostInTime is the greatest number of lines none of which is late if they come first, those that are due first ahead of others.
func mostInTime(times, due []int64) int {
	most := 0
	for _, some := range sets(0, int64(len(times))-1) {
		slices.SortFunc(some, func(i, j int64) int { return int(due[i] - due[j]) })
		if len(some) > most && len(lateByHand(times, due, some)) == 0 {
			most = len(some)
		}
	}
	return most
}

func TestP11NoOrderHasFewerLateLines(t *testing.T) {
	r := rand.New(rand.NewSource(53))
	for range rounds {
		times := randomTimes(r, 5)
		due := randomDues(r, times)
		var best []int64
		fewest := -1
		for _, order := range ordersOf(len(times)) {
			if late := len(lateByHand(times, due, order)); len(order) == len(times) && (fewest < 0 || late < fewest) {
				best, fewest = order, late
			}
		}
		isBestOrder(t, times, due, int64(fewest), best...)
		is(t, fmt.Sprint("lines in time of ", times, due), len(times)-fewest, mostInTime(times, due))
	}
}

func TestP11OrdersOfManyLines(t *testing.T) {
	r := rand.New(rand.NewSource(54))
	orders := slices.DeleteFunc(ordersOf(7), func(order []int64) bool { return len(order) < 7 })
	for range rounds {
		times := randomTimes(r, 1)
		for len(times) < 7 {
			times = append(times, int64(1+r.Intn(40)))
		}
		due := randomDues(r, times)
		order, fewest, code := impl.FewestLate(times, due)
		is(t, fmt.Sprint("FewestLate of ", times, due), []any{fewest, code}, []any{7 - mostInTime(times, due), 0})
		first := slices.IndexFunc(orders, func(order []int64) bool { return int64(len(lateByHand(times, due, order))) == fewest })
		is(t, fmt.Sprint("order of FewestLate of ", times, due), order, orders[first])
	}
}

var rightStrokes = regexp.MustCompile(`^([1-9]|[12][0-9]|30)( ([1-9]|[12][0-9]|30)){25}$`)

func TestP10StrokesAreReadFromTheirTexts(t *testing.T) {
	r := rand.New(rand.NewSource(55))
	for range 10 * rounds {
		s := randomStrokes(r)
		text := strokesText(s)
		is(t, "StrokesText", impl.StrokesText(s), text)
		if r.Intn(2) == 0 {
			text = changedText(r, text, "01239 +-a")
		}
		read, code := impl.ReadStrokes(text)
		name := fmt.Sprintf("ReadStrokes %q", text)
		if !rightStrokes.MatchString(text) {
			isCode(t, name, code, impl.ErrSyntax, read)
			continue
		}
		var want impl.Strokes
		for i, number := range strings.Fields(text) {
			n, _ := strconv.Atoi(number)
			want[i] = int8(n)
		}
		is(t, name, []any{read, code}, []any{want, 0})
		is(t, "text of "+name, impl.StrokesText(read), text)
	}
}
