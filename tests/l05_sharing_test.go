package tests

import (
	"fmt"
	"math"
	"slices"
	"testing"

	"loop.example/g01398/impl"
)

// This file has what chapter 5 says of single times that are shared, put on days, or due.

// oddNumbers are neither a time, nor a number of cutters, nor a time at which a line is due.
func oddNumbers() []int64 {
	return []int64{-1, math.MinInt64, math.MaxInt64, impl.MaxTime*impl.MaxLines + 1, 1 << 32, -(1 << 32), 1<<32 + 1}
}

// badTimes have one that is no time, and are as many as so many functions take.
func badTimes() [][]int64 {
	var bad [][]int64
	for _, n := range append(oddNumbers(), 0, impl.MaxTime+1) {
		bad = append(bad, []int64{n}, []int64{n, 1, 2}, []int64{30, 20, n}, append(slices.Repeat([]int64{1}, impl.MaxLines), n), append([]int64{n}, slices.Repeat([]int64{1}, 1000)...))
	}
	return bad
}

func manyTimes(n int) []int64 { return slices.Repeat([]int64{1}, n) }

type shareFunction func(times []int64, cutters int64) ([]int64, int64, int64)

func isShared(t *testing.T, name string, share shareFunction, times []int64, cutters, most int64, want ...int64) {
	t.Helper()
	shared, got, code := share(times, cutters)
	is(t, fmt.Sprint(name, " ", times, " among ", cutters), []any{shared, got, code}, []any{want, most, 0})
}

// areLinesShared looks at lines behind each other.
func areLinesShared(t *testing.T, times []int64, cutters, most int64, want ...int64) {
	t.Helper()
	isShared(t, "ShareLines", impl.ShareLines, times, cutters, most, want...)
}

func areAnyShared(t *testing.T, times []int64, cutters, most int64, want ...int64) {
	t.Helper()
	isShared(t, "ShareAny", impl.ShareAny, times, cutters, most, want...)
}

// areBothShared looks at lines that are shared best behind each other.
func areBothShared(t *testing.T, times []int64, cutters, most int64, want ...int64) {
	t.Helper()
	areLinesShared(t, times, cutters, most, want...)
	areAnyShared(t, times, cutters, most, want...)
}

func TestP11SharingExample(t *testing.T) {
	areBothShared(t, []int64{30, 20, 40, 10}, 2, 50, 0, 0, 1, 1)
}

func TestP11SharingFewLines(t *testing.T) {
	for cutters := int64(1); cutters <= impl.MaxCutters; cutters++ {
		areBothShared(t, nil, cutters, 0)
		areBothShared(t, []int64{}, cutters, 0)
		areBothShared(t, []int64{1}, cutters, 1, 0)
		areBothShared(t, []int64{impl.MaxTime}, cutters, impl.MaxTime, 0)
	}
	// More cutters than lines: who gets none is behind all others.
	for cutters := int64(3); cutters <= impl.MaxCutters; cutters++ {
		areBothShared(t, []int64{10, 10}, cutters, 10, 0, 1)
		areBothShared(t, []int64{30, 20, 40}, cutters, 40, 0, 1, 2)
		areBothShared(t, []int64{10, 10, 10}, cutters, 10, 0, 1, 2)
		areBothShared(t, []int64{10, 20, 40}, cutters, 40, 0, 0, 1)
		areBothShared(t, []int64{40, 20, 10}, cutters, 40, 0, 1, 1)
	}
	// One cutter gets all.
	areBothShared(t, []int64{30, 20, 40, 10}, 1, 100, 0, 0, 0, 0)
	areBothShared(t, manyTimes(8), 1, 8, make([]int64, 8)...)
	areLinesShared(t, manyTimes(impl.MaxLines), 1, 12, make([]int64, 12)...)
}

func TestP11SeveralSharingsWithTheSameMost(t *testing.T) {
	areBothShared(t, []int64{10, 10, 10}, 2, 20, 0, 0, 1)
	areBothShared(t, []int64{10, 10, 10, 10, 10}, 2, 30, 0, 0, 0, 1, 1)
	areBothShared(t, []int64{10, 10, 10, 10, 10}, 3, 20, 0, 0, 1, 1, 2)
	areBothShared(t, []int64{10, 10, 10, 10}, 3, 20, 0, 0, 1, 1)
	areBothShared(t, []int64{50, 10, 10, 10}, 3, 50, 0, 1, 1, 1)
	areBothShared(t, []int64{10, 10, 10, 50}, 3, 50, 0, 0, 0, 1)
	areBothShared(t, []int64{20, 10, 10, 20}, 2, 30, 0, 0, 1, 1)
	areLinesShared(t, []int64{10, 50, 10}, 3, 50, 0, 1, 2)
	areAnyShared(t, []int64{10, 50, 10}, 3, 50, 0, 1, 0)
	areLinesShared(t, []int64{10, 10, 20, 20}, 2, 40, 0, 0, 0, 1)
	areAnyShared(t, []int64{10, 10, 20, 20}, 2, 30, 0, 1, 0, 1)
}

func TestP11LinesBehindEachOther(t *testing.T) {
	// What is shared best among any is not behind each other.
	areLinesShared(t, []int64{10, 30, 20}, 2, 40, 0, 0, 1)
	areAnyShared(t, []int64{10, 30, 20}, 2, 30, 0, 1, 0)
	areLinesShared(t, []int64{10, 20, 30, 40}, 2, 60, 0, 0, 0, 1)
	areAnyShared(t, []int64{10, 20, 30, 40}, 2, 50, 0, 1, 1, 0)
	areBothShared(t, []int64{10, 20, 30}, 2, 30, 0, 0, 1)
	areBothShared(t, []int64{30, 20, 10}, 2, 30, 0, 1, 1)
	areLinesShared(t, []int64{1, 2, 3, 4, 5, 6, 7, 8}, 5, 9, 0, 0, 0, 1, 1, 2, 3, 4)
	areAnyShared(t, []int64{1, 2, 3, 4, 5, 6, 7, 8}, 5, 8, 0, 0, 1, 0, 1, 2, 3, 4)
	areBothShared(t, []int64{1, 2, 3, 4, 5, 6, 7, 8}, 6, 8, 0, 0, 0, 1, 2, 3, 4, 5)
}

func TestP11AsManyLinesAsCanBeShared(t *testing.T) {
	areLinesShared(t, manyTimes(12), 6, 2, 0, 0, 1, 1, 2, 2, 3, 3, 4, 4, 5, 5)
	areLinesShared(t, manyTimes(12), 5, 3, 0, 0, 0, 1, 1, 1, 2, 2, 2, 3, 3, 3)
	areLinesShared(t, slices.Repeat([]int64{impl.MaxTime}, 12), 1, 12*impl.MaxTime, make([]int64, 12)...)
	areLinesShared(t, slices.Repeat([]int64{impl.MaxTime}, 12), 6, 2*impl.MaxTime, 0, 0, 1, 1, 2, 2, 3, 3, 4, 4, 5, 5)
	areAnyShared(t, manyTimes(8), 6, 2, 0, 0, 1, 1, 2, 2, 3, 3)
	areAnyShared(t, []int64{1, 2, 3, 4, 5, 6, 7, 8}, 2, 18, 0, 0, 0, 0, 1, 1, 1, 0)
	areAnyShared(t, slices.Repeat([]int64{impl.MaxTime}, 8), 1, 8*impl.MaxTime, make([]int64, 8)...)
	areLinesShared(t, manyTimes(9), 3, 3, 0, 0, 0, 1, 1, 1, 2, 2, 2)
}

func TestP11SharingErrors(t *testing.T) {
	isNone := func(times []int64, cutters, want, wantAny int64) {
		t.Helper()
		name := fmt.Sprint(" of ", len(times), " among ", cutters)
		shared, most, code := impl.ShareLines(times, cutters)
		isCode(t, "ShareLines"+name, code, want, shared, most)
		shared, most, code = impl.ShareAny(times, cutters)
		isCode(t, "ShareAny"+name, code, wantAny, shared, most)
	}
	for _, cutters := range append(oddNumbers(), 0, impl.MaxCutters+1) {
		for _, n := range []int{0, 1, 8, 9, 12, 13, 1000} {
			isNone(manyTimes(n), cutters, impl.ErrRange, impl.ErrRange)
		}
	}
	for _, times := range badTimes() {
		for _, cutters := range []int64{-1, 0, 1, 2, 6, 7} {
			isNone(times, cutters, impl.ErrRange, impl.ErrRange)
		}
	}
	for _, n := range []int{13, 14, 1000} {
		isNone(manyTimes(n), 1, impl.ErrLimit, impl.ErrLimit)
		isNone(manyTimes(n), 6, impl.ErrLimit, impl.ErrLimit)
	}
	for _, n := range []int{9, 10, 12} {
		shared, most, code := impl.ShareAny(manyTimes(n), 2)
		isCode(t, fmt.Sprint("ShareAny of ", n), code, impl.ErrLimit, shared, most)
	}
}

func areDays(t *testing.T, times []int64, day, count int64, want ...int64) {
	t.Helper()
	days, got, code := impl.DaysFor(times, day)
	is(t, fmt.Sprint("DaysFor ", times, " of ", day), []any{days, got, code}, []any{want, count, 0})
}

func TestP11Days(t *testing.T) {
	areDays(t, []int64{30, 20, 40, 10}, 50, 2, 0, 0, 1, 1)
	// A day that is filled just, and one that is a minute too short.
	areDays(t, []int64{30, 20}, 50, 1, 0, 0)
	areDays(t, []int64{30, 21}, 50, 2, 0, 1)
	areDays(t, []int64{30, 20, 1}, 50, 2, 0, 0, 1)
	areDays(t, []int64{10, 10, 10, 10, 10, 10, 10}, 30, 3, 0, 0, 0, 1, 1, 1, 2)
	areDays(t, []int64{10, 10, 10, 10, 10, 10, 10}, 29, 4, 0, 0, 1, 1, 2, 2, 3)
	// A line that takes just a day.
	areDays(t, []int64{50}, 50, 1, 0)
	areDays(t, []int64{50, 50, 50}, 50, 3, 0, 1, 2)
	areDays(t, []int64{1, 50, 1}, 50, 3, 0, 1, 2)
	areDays(t, []int64{50, 1, 49, 50}, 50, 3, 0, 1, 1, 2)
	// No line goes back to a day that has room.
	areDays(t, []int64{30, 40, 20}, 50, 3, 0, 1, 2)
	areDays(t, []int64{30, 40, 10, 20}, 50, 3, 0, 1, 1, 2)
	areDays(t, []int64{10, 50, 10, 10}, 50, 3, 0, 1, 2, 2)
	// What is left of a day is lost.
	areDays(t, []int64{40, 40, 20, 30}, 50, 3, 0, 1, 2, 2)
	for _, day := range []int64{1, 50, impl.MaxTime} {
		areDays(t, nil, day, 0)
		areDays(t, []int64{1}, day, 1, 0)
	}
	areDays(t, manyTimes(12), 1, 12, numbersBelow(12)...)
	areDays(t, manyTimes(12), 12, 1, make([]int64, 12)...)
	areDays(t, manyTimes(12), 11, 2, append(make([]int64, 11), 1)...)
	areDays(t, manyTimes(12), impl.MaxTime, 1, make([]int64, 12)...)
	areDays(t, slices.Repeat([]int64{impl.MaxTime}, 12), impl.MaxTime, 12, numbersBelow(12)...)
}

func TestP11DaysWithErrors(t *testing.T) {
	isNone := func(times []int64, day, want int64) {
		t.Helper()
		days, count, code := impl.DaysFor(times, day)
		isCode(t, fmt.Sprint("DaysFor ", len(times), " of ", day), code, want, days, count)
	}
	for _, day := range append(oddNumbers(), 0, impl.MaxTime+1) {
		for _, n := range []int{0, 1, 12, 13, 1000} {
			isNone(manyTimes(n), day, impl.ErrRange)
		}
	}
	for _, times := range badTimes() {
		for _, day := range []int64{-1, 0, 1, 50, impl.MaxTime, impl.MaxTime + 1} {
			isNone(times, day, impl.ErrRange)
		}
	}
	for _, n := range []int{13, 14, 1000} {
		isNone(manyTimes(n), 1, impl.ErrLimit)
		isNone(manyTimes(n), impl.MaxTime, impl.ErrLimit)
		isNone(slices.Repeat([]int64{2}, n), 1, impl.ErrLimit)
	}
	isNone([]int64{51}, 50, impl.ErrNotFound)
	isNone([]int64{51, 10, 10}, 50, impl.ErrNotFound)
	isNone([]int64{10, 51, 10}, 50, impl.ErrNotFound)
	isNone([]int64{50, 50, 51}, 50, impl.ErrNotFound)
	isNone([]int64{2}, 1, impl.ErrNotFound)
	isNone([]int64{impl.MaxTime}, impl.MaxTime-1, impl.ErrNotFound)
	isNone(slices.Repeat([]int64{2}, 12), 1, impl.ErrNotFound)
}

func areLate(t *testing.T, times, due []int64, want ...int64) {
	t.Helper()
	late, code := impl.LateLines(times, due)
	is(t, fmt.Sprint("LateLines ", times, " due ", due), []any{late, code}, []any{want, 0})
}

func TestP11LateLines(t *testing.T) {
	areLate(t, []int64{30, 20}, []int64{30, 40}, 1)
	areLate(t, nil, nil)
	areLate(t, []int64{}, nil)
	// Ready just when due, and a minute later.
	areLate(t, []int64{30}, []int64{30})
	areLate(t, []int64{30}, []int64{29}, 0)
	areLate(t, []int64{10, 10, 10}, []int64{10, 20, 30})
	areLate(t, []int64{10, 10, 10}, []int64{9, 20, 30}, 0)
	areLate(t, []int64{10, 10, 10}, []int64{10, 19, 30}, 1)
	areLate(t, []int64{10, 10, 10}, []int64{10, 20, 29}, 2)
	areLate(t, []int64{10, 10, 10}, []int64{9, 20, 29}, 0, 2)
	// A line that is late goes on to take its time.
	areLate(t, []int64{30, 10, 10}, []int64{0, 40, 49}, 0, 2)
	areLate(t, []int64{1, 1, 1}, []int64{0, 0, 0}, 0, 1, 2)
	areLate(t, []int64{1, 2, 3}, []int64{6, 2, 6}, 1)
	// Just MaxLines, and times and dues at their limits.
	full := slices.Repeat([]int64{impl.MaxTime}, impl.MaxLines)
	areLate(t, full, slices.Repeat([]int64{impl.MaxTime * impl.MaxLines}, impl.MaxLines))
	areLate(t, full, slices.Repeat([]int64{impl.MaxTime*impl.MaxLines - 1}, impl.MaxLines), 11)
	areLate(t, full, make([]int64, impl.MaxLines), numbersBelow(12)...)
	areLate(t, manyTimes(12), numbersBelow(13)[1:])
	areLate(t, manyTimes(12), numbersBelow(12), numbersBelow(12)...)
}

func isBestOrder(t *testing.T, times, due []int64, late int64, want ...int64) {
	t.Helper()
	order, few, code := impl.FewestLate(times, due)
	is(t, fmt.Sprint("FewestLate ", times, " due ", due), []any{order, few, code}, []any{want, late, 0})
}

func TestP11FewestLateLines(t *testing.T) {
	isBestOrder(t, []int64{30, 20}, []int64{60, 20}, 0, 1, 0)
	isBestOrder(t, nil, nil, 0)
	isBestOrder(t, []int64{30}, []int64{30}, 0, 0)
	isBestOrder(t, []int64{30}, []int64{29}, 1, 0)
	isBestOrder(t, []int64{30, 10, 20}, []int64{60, 10, 30}, 0, 1, 2, 0)
	isBestOrder(t, []int64{30, 10, 20}, []int64{59, 10, 30}, 1, 1, 0, 2)
	// The line that is due first is late, so that two others are not.
	isBestOrder(t, []int64{50, 10, 10}, []int64{50, 55, 58}, 1, 1, 2, 0)
	isBestOrder(t, []int64{10, 10, 50}, []int64{55, 58, 50}, 1, 0, 1, 2)
}

func TestP11SeveralOrdersWithAsFewLateLines(t *testing.T) {
	isBestOrder(t, []int64{10, 10, 10}, []int64{30, 30, 30}, 0, 0, 1, 2)
	isBestOrder(t, []int64{10, 10, 10}, []int64{30, 30, 20}, 0, 0, 2, 1)
	isBestOrder(t, []int64{10, 10, 10}, []int64{30, 10, 30}, 0, 1, 0, 2)
	isBestOrder(t, []int64{10, 10}, []int64{0, 0}, 2, 0, 1)
	isBestOrder(t, []int64{30, 20}, []int64{30, 40}, 1, 0, 1)
	isBestOrder(t, []int64{30, 20}, []int64{29, 40}, 1, 1, 0)
	isBestOrder(t, []int64{10, 10, 10}, []int64{10, 10, 10}, 2, 0, 1, 2)
}

func TestP11AsManyLinesAsCanBeOrdered(t *testing.T) {
	isBestOrder(t, []int64{1, 2, 3, 4, 5, 6, 7}, slices.Repeat([]int64{28}, 7), 0, 0, 1, 2, 3, 4, 5, 6)
	isBestOrder(t, slices.Repeat([]int64{10}, 7), []int64{70, 60, 50, 40, 30, 20, 10}, 0, 6, 5, 4, 3, 2, 1, 0)
	isBestOrder(t, slices.Repeat([]int64{10}, 7), make([]int64, 7), 7, 0, 1, 2, 3, 4, 5, 6)
	isBestOrder(t, slices.Repeat([]int64{impl.MaxTime}, 7), slices.Repeat([]int64{7 * impl.MaxTime}, 7), 0, 0, 1, 2, 3, 4, 5, 6)
	isBestOrder(t, slices.Repeat([]int64{impl.MaxTime}, 7), slices.Repeat([]int64{impl.MaxTime * impl.MaxLines}, 7), 0, 0, 1, 2, 3, 4, 5, 6)
	isBestOrder(t, []int64{7, 6, 5, 4, 3, 2, 1}, slices.Repeat([]int64{10}, 7), 3, 3, 4, 5, 6, 0, 1, 2)
}

func TestP11DuesWithErrors(t *testing.T) {
	isNone := func(times, due []int64, want, wantFewest int64) {
		t.Helper()
		name := fmt.Sprint(" of ", len(times), " and ", len(due))
		late, code := impl.LateLines(times, due)
		isCode(t, "LateLines"+name, code, want, late)
		order, count, code := impl.FewestLate(times, due)
		isCode(t, "FewestLate"+name, code, wantFewest, order, count)
	}
	for _, n := range []int{0, 1, 2, 7, 8, 12, 13, 1000} {
		for _, other := range []int{n - 1, n + 1, 2*n + 2} {
			if other >= 0 {
				isNone(manyTimes(n), manyTimes(other), impl.ErrRange, impl.ErrRange)
			}
		}
		for _, due := range append(oddNumbers(), impl.MaxTime*impl.MaxLines+1) {
			for _, at := range []int{0, n / 2, n - 1} {
				if n > 0 {
					dues := manyTimes(n)
					dues[at] = due
					isNone(manyTimes(n), dues, impl.ErrRange, impl.ErrRange)
				}
			}
		}
	}
	for _, times := range badTimes() {
		isNone(times, manyTimes(len(times)), impl.ErrRange, impl.ErrRange)
		isNone(times, nil, impl.ErrRange, impl.ErrRange)
		isNone(times, times, impl.ErrRange, impl.ErrRange)
	}
	for _, n := range []int{13, 14, 1000} {
		isNone(manyTimes(n), manyTimes(n), impl.ErrLimit, impl.ErrLimit)
	}
	for _, n := range []int{8, 9, 12} {
		order, count, code := impl.FewestLate(manyTimes(n), manyTimes(n))
		isCode(t, fmt.Sprint("FewestLate of ", n), code, impl.ErrLimit, order, count)
	}
}
