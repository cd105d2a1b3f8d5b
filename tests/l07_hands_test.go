package tests

import (
	"fmt"
	"math"
	"slices"
	"strings"
	"testing"

	"loop.example/g01398/impl"
)

// This file has what chapter 7 says of single gaps, hands and groups.

// badGaps are not valid, each one for another reason.
func badGaps() map[string][]int64 {
	bad := map[string][]int64{
		"one too many":                          make([]int64, impl.MaxGaps+1),
		"many too many":                         make([]int64, 1000),
		"a number beyond 100 behind the others": append(make([]int64, impl.MaxGaps-1), 101),
		"both":                                  append(make([]int64, impl.MaxGaps), 101),
	}
	for _, n := range []int64{101, -101, 200, -200, 256, -256, 1 << 32, -(1 << 32), 1<<32 + 1, math.MaxInt64, math.MinInt64, math.MinInt64 + 100} {
		bad[fmt.Sprint("only ", n)] = []int64{n}
		bad[fmt.Sprint(n, " at first")] = []int64{n, 1, 2}
		bad[fmt.Sprint(n, " at last")] = []int64{1, 2, n}
	}
	return bad
}

func goodGaps() [][]int64 {
	return [][]int64{nil, {0}, {2, 0, 1}, {2, 1}, {100}, {-100}, {100, -100, 100}, slices.Repeat([]int64{100}, impl.MaxGaps), slices.Repeat([]int64{-100}, impl.MaxGaps), make([]int64, impl.MaxGaps), {5, 5, 5, 5}}
}

func hasGaps(t *testing.T, f impl.Face, word string, want ...int64) {
	t.Helper()
	gaps, code := impl.GapsOf(f, word)
	is(t, "GapsOf "+word, []any{gaps, code}, []any{want, 0})
}

func areApart(t *testing.T, a, b []int64, want int64) {
	t.Helper()
	for _, lists := range [][2][]int64{{a, b}, {b, a}} {
		apart, code := impl.GapsApart(lists[0], lists[1])
		is(t, fmt.Sprint("GapsApart of ", lists[0], " and ", lists[1]), []any{apart, code}, []any{want, 0})
	}
}

// isNearest looks at the nearest hand, and that it is so far apart.
func isNearest(t *testing.T, gaps []int64, index, apart int64, hands ...[]int64) {
	t.Helper()
	i, least, code := impl.NearestHand(hands, gaps)
	is(t, fmt.Sprint("NearestHand of ", hands, " to ", gaps), []any{i, least, code}, []any{index, apart, 0})
	areApart(t, gaps, hands[index], apart)
}

func isNotNear(t *testing.T, gaps []int64, want int64, hands ...[]int64) {
	t.Helper()
	i, least, code := impl.NearestHand(hands, gaps)
	isCode(t, fmt.Sprint("NearestHand of ", len(hands), " to ", gaps), code, want, i, least)
}

func areGrouped(t *testing.T, hands [][]int64, limit int64, want ...int64) {
	t.Helper()
	groups, code := impl.GroupHands(hands, limit)
	is(t, fmt.Sprint("GroupHands of ", hands, " with ", limit), []any{groups, code}, []any{want, 0})
}

func areNotGrouped(t *testing.T, hands [][]int64, limit, want int64) {
	t.Helper()
	groups, code := impl.GroupHands(hands, limit)
	isCode(t, fmt.Sprint("GroupHands of ", len(hands), " with ", limit), code, want, groups)
}

// single has a hand with one gap for each number.
func single(gaps ...int64) [][]int64 {
	var hands [][]int64
	for _, gap := range gaps {
		hands = append(hands, []int64{gap})
	}
	return hands
}

func TestP15GapsExample(t *testing.T) {
	areApart(t, []int64{2, 0, 1}, []int64{2, 1}, 11)
}

func TestP15GapsOfWords(t *testing.T) {
	hasGaps(t, exampleFace(), "A")
	hasGaps(t, exampleFace(), "Z")
	hasGaps(t, exampleFace(), "AVE", 0, 2)
	hasGaps(t, exampleFace(), "VIA", 2, 2)
	hasGaps(t, exampleFace(), "AV", 0)
	hasGaps(t, exampleFace(), "VA", 2)
	hasGaps(t, exampleFace(), "AVAVA", 0, 2, 0, 2)
	hasGaps(t, plainFace(), "AVE", 2, 2)
	// Gap is 3; "AB" has 4 more, "BA" 3 less, and "BB" 1 less.
	hasGaps(t, unevenFace(), "ABBA", 7, 2, 0)
	hasGaps(t, unevenFace(), "BAAB", 0, 3, 7)
	hasGaps(t, unevenFace(), "CAT", 3, 3)
	f := plainFace(impl.Pair{A: 'A', B: 'Z', By: 10}, impl.Pair{A: 'Z', B: 'A', By: -10})
	f.Gap = 10
	hasGaps(t, f, "AZAZZ", 20, 0, 20, 10)
	f = plainFace()
	f.Gap = 0
	hasGaps(t, f, "AVE", 0, 0)
	// A word can have more gaps than a valid list.
	hasGaps(t, plainFace(), strings.Repeat("M", 31), slices.Repeat([]int64{2}, 30)...)
	hasGaps(t, plainFace(), strings.Repeat("M", 32), slices.Repeat([]int64{2}, 31)...)
	hasGaps(t, plainFace(), strings.Repeat("M", impl.MaxText), slices.Repeat([]int64{2}, impl.MaxText-1)...)
}

func TestP15WhatHasNoGaps(t *testing.T) {
	for _, word := range append(badTexts(), "", "A B", "AVE VIA", "AVE VIA SON") {
		gaps, code := impl.GapsOf(exampleFace(), word)
		isCode(t, "GapsOf "+word, code, impl.ErrInvalid, gaps)
	}
	for name, f := range badFaces() {
		for _, word := range []string{"A", "AVE", "", "A B"} {
			gaps, code := impl.GapsOf(f, word)
			isCode(t, "GapsOf "+word+", "+name, code, impl.ErrInvalid, gaps)
		}
	}
}

func TestP15GapsThatAreApart(t *testing.T) {
	for _, gaps := range goodGaps() {
		areApart(t, gaps, gaps, 0)
		areApart(t, gaps, nil, 10*int64(len(gaps)))
	}
	areApart(t, []int64{5}, []int64{8}, 3)
	areApart(t, []int64{5}, []int64{-8}, 13)
	areApart(t, []int64{-5}, []int64{-8}, 3)
	areApart(t, []int64{1, 2, 3}, []int64{3, 2, 1}, 4)
	areApart(t, []int64{1, 2, 3}, []int64{0, 4, 0}, 6)
	areApart(t, []int64{1, 2, 3}, []int64{1, 2}, 10)
	areApart(t, []int64{1, 2, 3}, []int64{2, 3}, 12)
	areApart(t, []int64{1, 2, 3}, []int64{2}, 21)
	areApart(t, []int64{0, 0, 0}, nil, 30)
	areApart(t, []int64{100}, []int64{-100}, 200)
	areApart(t, slices.Repeat([]int64{100}, 30), slices.Repeat([]int64{-100}, 30), 6000)
	areApart(t, slices.Repeat([]int64{100}, 30), nil, 300)
	areApart(t, slices.Repeat([]int64{100}, 30), []int64{-100, 99}, 200+1+280)
	for _, bad := range badGaps() {
		for _, good := range append(goodGaps(), bad) {
			apart, code := impl.GapsApart(bad, good)
			isCode(t, fmt.Sprint("GapsApart of ", bad, " and ", good), code, impl.ErrInvalid, apart)
			apart, code = impl.GapsApart(good, bad)
			isCode(t, fmt.Sprint("GapsApart of ", good, " and ", bad), code, impl.ErrInvalid, apart)
		}
	}
}

func TestP15NearestHands(t *testing.T) {
	isNearest(t, []int64{0, 2}, 1, 1, []int64{2, 2}, []int64{0, 1}, []int64{0})
	isNearest(t, []int64{2, 0, 1}, 0, 11, []int64{2, 1})
	isNearest(t, nil, 0, 0, nil)
	isNearest(t, nil, 1, 10, []int64{0, 0}, []int64{100}, []int64{0})
	isNearest(t, []int64{7}, 0, 0, []int64{7}, []int64{8})
	isNearest(t, []int64{7}, 1, 0, []int64{8}, []int64{7})
	isNearest(t, []int64{7}, 3, 1, single(0, 100, -7, 8, 5)...)
	isNearest(t, []int64{100}, 2, 50, single(-100, 0, 50, 49)...)
	isNearest(t, []int64{100}, 1, 10, []int64{-100}, nil, []int64{0, 0})
	// A list of another length can be nearer, or further away.
	isNearest(t, []int64{1, 2, 3}, 0, 10, []int64{1, 2}, []int64{4, 6, 7})
	isNearest(t, []int64{1, 2, 3}, 1, 9, []int64{1, 2}, []int64{4, 5, 6})
	isNearest(t, []int64{1, 2}, 1, 10, []int64{1, 13}, []int64{1, 2, 99})
	// Several ones that are as near: the first one.
	isNearest(t, []int64{5}, 0, 1, single(4, 6)...)
	isNearest(t, []int64{5}, 0, 1, single(6, 4)...)
	isNearest(t, []int64{5}, 1, 1, single(9, 6, 4, 6)...)
	isNearest(t, []int64{5}, 0, 0, single(5, 5, 5)...)
	isNearest(t, []int64{1, 2}, 0, 10, []int64{1}, []int64{1, 12}, []int64{11, 2})
	isNearest(t, []int64{1, 2}, 0, 10, []int64{11, 2}, []int64{1, 12}, []int64{1})
	// Just MaxHands, each one the nearest.
	for i := range int64(impl.MaxHands) {
		isNearest(t, []int64{10 * i}, i, 0, single(0, 10, 20, 30, 40, 50, 60, 70)...)
	}
	isNearest(t, []int64{-100}, 7, 99, single(9, 8, 7, 6, 5, 4, 3, -1)...)
}

func TestP15NoHandIsNear(t *testing.T) {
	good := single(0, 1, 2, 3, 4, 5, 6, 7, 8, 9)
	for _, gaps := range goodGaps() {
		isNotNear(t, gaps, impl.ErrNotFound)
		isNotNear(t, gaps, impl.ErrLimit, good[:9]...)
		isNotNear(t, gaps, impl.ErrLimit, good...)
		isNotNear(t, gaps, impl.ErrLimit, make([][]int64, 264)...)
	}
	for _, bad := range badGaps() {
		// Also if there are no hands, or too many.
		isNotNear(t, bad, impl.ErrInvalid)
		for count := range 11 {
			isNotNear(t, bad, impl.ErrInvalid, good[:min(count, 10)]...)
			isNotNear(t, nil, impl.ErrInvalid, append(slices.Clone(good[:min(count, 10)]), bad)...)
			isNotNear(t, bad, impl.ErrInvalid, append([][]int64{bad}, good[:min(count, 10)]...)...)
		}
	}
}

func TestP15GroupsOfHands(t *testing.T) {
	areGrouped(t, nil, 0)
	areGrouped(t, nil, math.MaxInt64)
	areGrouped(t, [][]int64{}, 0)
	areGrouped(t, [][]int64{nil}, 0, 0)
	areGrouped(t, [][]int64{nil, nil}, 0, 0, 0)
	areGrouped(t, single(0, 9, 1, 8), 1, 0, 1, 0, 1)
	// A limit of 0, of just the difference, and one less.
	areGrouped(t, single(5, 5, 6, 5), 0, 0, 0, 1, 0)
	areGrouped(t, single(5, 8), 2, 0, 1)
	areGrouped(t, single(5, 8), 3, 0, 0)
	areGrouped(t, single(-100, 100), 199, 0, 1)
	areGrouped(t, single(-100, 100), 200, 0, 0)
	areGrouped(t, [][]int64{{2, 0, 1}, {2, 1}}, 10, 0, 1)
	areGrouped(t, [][]int64{{2, 0, 1}, {2, 1}}, 11, 0, 0)
	areGrouped(t, [][]int64{nil, {7}}, 9, 0, 1)
	areGrouped(t, [][]int64{nil, {7}}, 10, 0, 0)
	areGrouped(t, [][]int64{slices.Repeat([]int64{100}, 30), slices.Repeat([]int64{-100}, 30)}, 5999, 0, 1)
	areGrouped(t, [][]int64{slices.Repeat([]int64{100}, 30), slices.Repeat([]int64{-100}, 30)}, 6000, 0, 0)
	areGrouped(t, single(-100, 100, 0, 50), math.MaxInt64, 0, 0, 0, 0)
	// Groups that are joined only over other hands, also by a later one.
	areGrouped(t, single(0, 1, 2, 3), 1, 0, 0, 0, 0)
	areGrouped(t, single(0, 2, 1), 1, 0, 0, 0)
	areGrouped(t, single(0, 2), 1, 0, 1)
	areGrouped(t, single(0, 4, 1, 3, 2), 1, 0, 0, 0, 0, 0)
	areGrouped(t, single(0, 4, 1, 3), 1, 0, 1, 0, 1)
	areGrouped(t, single(0, 3, 6, 9, 1, 2, 7, 8), 1, 0, 0, 1, 1, 0, 0, 1, 1)
	areGrouped(t, single(0, 3, 6, 9, 1, 2, 5, 4), 1, 0, 0, 0, 1, 0, 0, 0, 0)
	areGrouped(t, single(7, 6, 5, 4, 3, 2, 1, 0), 1, 0, 0, 0, 0, 0, 0, 0, 0)
	areGrouped(t, single(0, 7, 2, 5, 4, 3, 6, 1), 1, 0, 0, 0, 0, 0, 0, 0, 0)
	areGrouped(t, [][]int64{{0}, {8}, {4, 4}, {4}}, 10, 0, 0, 0, 0)
	areGrouped(t, [][]int64{{0}, {11}, {1, 4, 4}, nil}, 10, 0, 0, 1, 0)
	// The numbers of groups in the order in which they come first.
	areGrouped(t, single(50, 10, 30, 20, 40, 60, 70, 80), 9, 0, 1, 2, 3, 4, 5, 6, 7)
	areGrouped(t, single(50, 10, 30, 20, 40, 60, 70, 80), 10, 0, 0, 0, 0, 0, 0, 0, 0)
	areGrouped(t, single(50, 10, 51, 11, 90, 12, 52, 91), 1, 0, 1, 0, 1, 2, 1, 0, 2)
	areGrouped(t, single(9, 1, 9, 1, 5), 0, 0, 1, 0, 1, 2)
}

func TestP15WhatIsNotGrouped(t *testing.T) {
	good := single(0, 1, 2, 3, 4, 5, 6, 7, 8, 9)
	limits := []int64{0, 1, math.MaxInt64, -1, math.MinInt64}
	for _, limit := range []int64{-1, -2, -10, -(1 << 32), math.MinInt64} {
		for count := range 9 {
			areNotGrouped(t, good[:count], limit, impl.ErrRange)
		}
		areNotGrouped(t, nil, limit, impl.ErrRange)
	}
	for _, limit := range limits {
		areNotGrouped(t, good[:9], limit, impl.ErrLimit)
		areNotGrouped(t, good, limit, impl.ErrLimit)
		areNotGrouped(t, make([][]int64, 264), limit, impl.ErrLimit)
		for _, bad := range badGaps() {
			for count := range 10 {
				areNotGrouped(t, append(slices.Clone(good[:count]), bad), limit, impl.ErrInvalid)
				areNotGrouped(t, append([][]int64{bad}, good[:count]...), limit, impl.ErrInvalid)
			}
		}
	}
}
