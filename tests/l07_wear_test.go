package tests

import (
	"fmt"
	"math"
	"slices"
	"testing"

	"loop.example/g01398/impl"
)

// This file has what chapter 7 says of single rubbings that are worn, and of several ones.

func wears(t *testing.T, r impl.Rubbing, need int64, want impl.Rubbing) {
	t.Helper()
	worn, code := impl.WearOnce(r, need)
	is(t, fmt.Sprint("WearOnce of ", r, " with ", need), []any{worn, code}, []any{want, 0})
}

func wearsUntil(t *testing.T, r impl.Rubbing, need, bound, want int64) {
	t.Helper()
	times, code := impl.WearUntil(r, need, bound)
	is(t, fmt.Sprint("WearUntil of ", r, " with ", need, " and ", bound), []any{times, code}, []any{want, 0})
}

func doesNotWear(t *testing.T, r impl.Rubbing, need, bound, want int64) {
	t.Helper()
	times, code := impl.WearUntil(r, need, bound)
	isCode(t, fmt.Sprint("WearUntil of ", r, " with ", need, " and ", bound), code, want, times)
}

func mayBe(t *testing.T, old, now impl.Rubbing, want bool) {
	t.Helper()
	is(t, fmt.Sprint("MayBeWorn of ", old, " and ", now), impl.MayBeWorn(old, now), want)
}

func areJoined(t *testing.T, want impl.Rubbing, list ...impl.Rubbing) {
	t.Helper()
	joined, code := impl.JoinRubbings(list)
	is(t, fmt.Sprint("JoinRubbings of ", list), []any{joined, code}, []any{want, 0})
}

func areSure(t *testing.T, need int64, want impl.Rubbing, list ...impl.Rubbing) {
	t.Helper()
	sure, code := impl.SureDark(list, need)
	is(t, fmt.Sprint("SureDark of ", list, " with ", need), []any{sure, code}, []any{want, 0})
}

func areNotSure(t *testing.T, need, want int64, list ...impl.Rubbing) {
	t.Helper()
	sure, code := impl.SureDark(list, need)
	isCode(t, fmt.Sprint("SureDark of ", len(list), " with ", need), code, want, sure)
}

// noNeeds are less than 0, or more than the dots around a dot.
func noNeeds() []int64 {
	return []int64{-1, 9, -8, 10, 16, 256, -256, 1 << 32, 1<<32 + 1, -(1 << 32), math.MaxInt64, math.MinInt64}
}

func TestP15Example(t *testing.T) {
	r := dotted(dot{2, 1}, dot{3, 1})
	wears(t, r, 2, impl.Rubbing{})
	wears(t, r, 1, r)
}

func TestP15DotsThatWear(t *testing.T) {
	for _, r := range someRubbings() {
		wears(t, r, 0, r)
	}
	for need := int64(0); need <= 8; need++ {
		wears(t, impl.Rubbing{}, need, impl.Rubbing{})
	}
	alone := dotted(dot{7, 3})
	wears(t, alone, 0, alone)
	wears(t, alone, 1, impl.Rubbing{})
	wears(t, alone, 8, impl.Rubbing{})
	// Each one of the eight dots around one is enough for a need of 1, and none that is further away.
	for y := range impl.RubHigh {
		for x := range impl.RubWide {
			two := dotted(dot{7, 3}, dot{x, y})
			far := max(x-7, 7-x, y-3, 3-y)
			if far == 1 {
				wears(t, two, 1, two)
			} else {
				wears(t, two, 1, impl.Rubbing{})
			}
			wears(t, two, 2, impl.Rubbing{})
		}
	}
	block := drawn("", " ###", " ###", " ###")
	wears(t, block, 3, block)
	wears(t, block, 4, drawn("", "  #", " ###", "  #"))
	wears(t, block, 5, drawn("", "  #", " ###", "  #"))
	wears(t, block, 6, drawn("", "", "  #"))
	wears(t, block, 8, drawn("", "", "  #"))
	ring := drawn("", " ###", " # #", " ###")
	wears(t, ring, 2, ring)
	wears(t, ring, 3, drawn("", "  #", " # #", "  #"))
	wears(t, ring, 4, drawn("", "  #", " # #", "  #"))
	wears(t, ring, 5, impl.Rubbing{})
	// At once: the dots of an end are still there for those beside them.
	wears(t, drawn("", " ####"), 2, drawn("", "  ##"))
	wears(t, drawn("#", " #", "  #", "   #"), 2, drawn("", " #", "  #"))
	wears(t, drawn(" #", " #", " #"), 2, drawn("", " #"))
}

func TestP15DotsAtEdges(t *testing.T) {
	// Outside it is light: corners have three dots around them, and edges five.
	full, inner := allDark(), impl.Rubbing{0, 0x7ffe, 0x7ffe, 0x7ffe, 0x7ffe, 0x7ffe, 0x7ffe, 0}
	cut := full
	cut[0], cut[7] = 0x7ffe, 0x7ffe
	for need, want := range []impl.Rubbing{full, full, full, full, cut, cut, inner, inner, inner} {
		wears(t, full, int64(need), want)
	}
	wears(t, dotted(corners()...), 1, impl.Rubbing{})
	wears(t, frame(), 2, frame())
	wears(t, frame(), 3, impl.Rubbing{0x4002, 0x8001, 0, 0, 0, 0, 0x8001, 0x4002})
	wears(t, frame(), 4, impl.Rubbing{})
	// No row or column goes on at the other side.
	wears(t, dotted(dot{0, 2}, dot{15, 2}), 1, impl.Rubbing{})
	wears(t, dotted(dot{0, 2}, dot{15, 1}), 1, impl.Rubbing{})
	wears(t, dotted(dot{0, 2}, dot{15, 3}), 1, impl.Rubbing{})
	wears(t, dotted(dot{4, 0}, dot{4, 7}), 1, impl.Rubbing{})
	wears(t, dotted(dot{4, 0}, dot{5, 7}), 1, impl.Rubbing{})
	wears(t, dotted(dot{0, 0}, dot{15, 7}), 1, impl.Rubbing{})
	for _, two := range [][]dot{{{0, 0}, {1, 1}}, {{15, 0}, {14, 1}}, {{0, 7}, {1, 6}}, {{15, 7}, {14, 6}}, {{0, 0}, {0, 1}}, {{15, 6}, {15, 7}}, {{0, 7}, {1, 7}}, {{14, 0}, {15, 0}}} {
		wears(t, dotted(two...), 1, dotted(two...))
		wears(t, dotted(two...), 2, impl.Rubbing{})
	}
}

func TestP15WearUntil(t *testing.T) {
	// It is so now.
	for need := int64(0); need <= 8; need++ {
		wearsUntil(t, impl.Rubbing{}, need, 0, 0)
		wearsUntil(t, impl.Rubbing{}, need, math.MaxInt64, 0)
		wearsUntil(t, allDark(), need, 128, 0)
		wearsUntil(t, allDark(), need, 129, 0)
		wearsUntil(t, allDark(), need, math.MaxInt64, 0)
		wearsUntil(t, dotted(dot{7, 3}), need, 1, 0)
	}
	// At once.
	for need := int64(1); need <= 8; need++ {
		wearsUntil(t, dotted(dot{7, 3}), need, 0, 1)
		wearsUntil(t, dotted(corners()...), need, 0, 1)
		wearsUntil(t, dotted(corners()...), need, 3, 1)
		wearsUntil(t, dotted(corners()...), need, 4, 0)
	}
	// After several times.
	line := drawn("", " #####")
	for bound, want := range []int64{3, 2, 2, 1, 1, 0, 0} {
		wearsUntil(t, line, 2, int64(bound), want)
	}
	whole := impl.Rubbing{0, 0, 0, 0xffff}
	for bound, want := range []int64{8, 8, 7, 7, 6, 6, 5, 5, 4, 4, 3, 3, 2, 2, 1, 1, 0} {
		wearsUntil(t, whole, 2, int64(bound), want)
	}
	// All that is at an edge: 128 dots, 84, 48, and 20.
	for _, c := range [][2]int64{{128, 0}, {127, 1}, {84, 1}, {83, 2}, {48, 2}, {47, 3}, {20, 3}, {19, 4}, {1, 4}, {0, 4}} {
		wearsUntil(t, allDark(), 8, c[0], c[1])
	}
}

func TestP15WhatNeverWearsSoFar(t *testing.T) {
	doesNotWear(t, dotted(dot{7, 3}), 0, 0, impl.ErrNotFound)
	doesNotWear(t, allDark(), 0, 127, impl.ErrNotFound)
	doesNotWear(t, allDark(), 3, 127, impl.ErrNotFound)
	doesNotWear(t, allDark(), 3, 0, impl.ErrNotFound)
	doesNotWear(t, frame(), 2, 43, impl.ErrNotFound)
	doesNotWear(t, drawn("", " ###", " # #", " ###"), 2, 7, impl.ErrNotFound)
	wearsUntil(t, drawn("", " ###", " # #", " ###"), 3, 7, 1)
	two := drawn("", " ##", " ##")
	for bound := range int64(4) {
		doesNotWear(t, two, 3, bound, impl.ErrNotFound)
		wearsUntil(t, two, 4, bound, 1)
	}
	// It wears for a while, and then no more.
	comet := drawn("", " ##", " #######")
	wearsUntil(t, comet, 2, 8, 1)
	wearsUntil(t, comet, 2, 5, 4)
	doesNotWear(t, comet, 2, 4, impl.ErrNotFound)
	doesNotWear(t, comet, 2, 0, impl.ErrNotFound)
	wearsUntil(t, comet, 2, 9, 0)
}

func TestP15NeedsAndBoundsThatAreNone(t *testing.T) {
	for _, r := range someRubbings() {
		for _, need := range noNeeds() {
			worn, code := impl.WearOnce(r, need)
			isCode(t, fmt.Sprint("WearOnce with ", need), code, impl.ErrRange, worn)
			for _, bound := range []int64{0, 1, 128, math.MaxInt64, -1, math.MinInt64} {
				doesNotWear(t, r, need, bound, impl.ErrRange)
			}
		}
		// Never so few, but it is the bound that is wrong.
		for _, bound := range []int64{-1, -2, -128, -(1 << 32), math.MinInt64} {
			for need := int64(0); need <= 8; need++ {
				doesNotWear(t, r, need, bound, impl.ErrRange)
			}
		}
	}
}

func TestP15WhatMayBeWorn(t *testing.T) {
	for _, r := range someRubbings() {
		mayBe(t, r, r, true)
		mayBe(t, r, impl.Rubbing{}, true)
		mayBe(t, allDark(), r, true)
		mayBe(t, impl.Rubbing{}, r, r == impl.Rubbing{})
		mayBe(t, r, allDark(), r == allDark())
		for need := int64(0); need <= 8; need++ {
			worn, _ := impl.WearOnce(r, need)
			mayBe(t, r, worn, true)
			mayBe(t, worn, r, worn == r)
		}
	}
	// One dot too many, wherever it is.
	for y := range impl.RubHigh {
		for x := range impl.RubWide {
			one := dotted(dot{x, y})
			light := allDark()
			light[y] &^= 1 << x
			mayBe(t, light, one, false)
			mayBe(t, light, allDark(), false)
			mayBe(t, one, light, false)
			mayBe(t, allDark(), light, true)
			mayBe(t, one, one, true)
			mayBe(t, impl.Rubbing{}, one, false)
		}
	}
	mayBe(t, drawn("####"), drawn(" ##"), true)
	mayBe(t, drawn(" ##"), drawn("####"), false)
	mayBe(t, drawn("####"), drawn("", " ##"), false)
	mayBe(t, drawn("####"), drawn("   ##"), false)
}

func TestP15JoinedRubbings(t *testing.T) {
	a, b, c := drawn("##", "#"), drawn(" ##", "  #"), drawn("", "", "###")
	areJoined(t, a, a)
	areJoined(t, a, a, a)
	areJoined(t, drawn("###", "# #"), a, b)
	areJoined(t, drawn("###", "# #"), b, a)
	areJoined(t, drawn("###", "# #", "###"), a, b, c)
	areJoined(t, impl.Rubbing{}, impl.Rubbing{})
	areJoined(t, a, impl.Rubbing{}, a)
	areJoined(t, allDark(), a, allDark(), b)
	rows := []impl.Rubbing{{1}, {0, 1}, {0, 0, 1}, {0, 0, 0, 1}, {0, 0, 0, 0, 1}, {0, 0, 0, 0, 0, 1}, {0, 0, 0, 0, 0, 0, 1}, {0, 0, 0, 0, 0, 0, 0, 1}}
	areJoined(t, impl.Rubbing{1, 1, 1, 1, 1, 1, 1, 1}, rows...)
	for _, list := range [][]impl.Rubbing{nil, {}} {
		joined, code := impl.JoinRubbings(list)
		isCode(t, "JoinRubbings of none", code, impl.ErrNotFound, joined)
	}
	for _, count := range []int{9, 10, 16, 256, 264} {
		joined, code := impl.JoinRubbings(slices.Repeat([]impl.Rubbing{a}, count))
		isCode(t, fmt.Sprint("JoinRubbings of ", count), code, impl.ErrLimit, joined)
	}
}

func TestP15DotsThatAreSure(t *testing.T) {
	a, b, c := drawn("##", "#"), drawn(" ##", "# #"), drawn(" # #")
	areSure(t, 1, a, a)
	areSure(t, 1, drawn("###", "# #"), a, b)
	areSure(t, 2, drawn(" #", "#"), a, b)
	areSure(t, 1, drawn("####", "# #"), a, b, c)
	areSure(t, 2, drawn(" #", "#"), a, b, c)
	areSure(t, 3, drawn(" #"), a, b, c)
	areSure(t, 2, a, a, a)
	areSure(t, 2, impl.Rubbing{}, a, impl.Rubbing{})
	areSure(t, 1, allDark(), allDark(), impl.Rubbing{})
	areSure(t, 8, allDark(), slices.Repeat([]impl.Rubbing{allDark()}, 8)...)
	areSure(t, 8, impl.Rubbing{}, append(slices.Repeat([]impl.Rubbing{allDark()}, 7), impl.Rubbing{})...)
	areSure(t, 7, allDark(), append(slices.Repeat([]impl.Rubbing{allDark()}, 7), impl.Rubbing{})...)
	// Of eight rubbings the first has one dot, the second two, and so on: the first dot is dark in all of them.
	var steps []impl.Rubbing
	for n := range 8 {
		steps = append(steps, impl.Rubbing{2<<n - 1})
	}
	for need := int64(1); need <= 8; need++ {
		areSure(t, need, impl.Rubbing{1<<(9-need) - 1}, steps...)
	}
	for count := range 9 {
		list := slices.Repeat([]impl.Rubbing{a}, count)
		for _, need := range append(noNeeds(), 0, int64(count)+1) {
			areNotSure(t, need, impl.ErrRange, list...)
		}
		if count > 0 {
			areSure(t, int64(count), a, list...)
		}
	}
	areNotSure(t, 1, impl.ErrRange)
	// Too many come ahead of a need that is none.
	for _, count := range []int{9, 10, 256, 264} {
		for _, need := range append(noNeeds(), 0, 1, 2, 8, 9, int64(count), int64(count)+1) {
			areNotSure(t, need, impl.ErrLimit, slices.Repeat([]impl.Rubbing{a}, count)...)
		}
	}
}

func TestP15MirroredRubbings(t *testing.T) {
	mirrored := func(r, want impl.Rubbing) {
		t.Helper()
		is(t, fmt.Sprint("MirrorRubbing of ", r), impl.MirrorRubbing(r), want)
		is(t, fmt.Sprint("MirrorRubbing of ", want), impl.MirrorRubbing(want), r)
	}
	for y := range impl.RubHigh {
		for x := range impl.RubWide {
			mirrored(dotted(dot{x, y}), dotted(dot{15 - x, y}))
		}
	}
	for _, r := range []impl.Rubbing{{}, allDark(), frame(), dotted(corners()...)} {
		mirrored(r, r)
	}
	mirrored(impl.Rubbing{1, 2, 3, 0xff00, 0x1234}, impl.Rubbing{0x8000, 0x4000, 0xc000, 0x00ff, 0x2c48})
	for _, r := range someRubbings() {
		is(t, "MirrorRubbing twice", impl.MirrorRubbing(impl.MirrorRubbing(r)), r)
		is(t, "rows of MirrorRubbing", impl.DarkRows(impl.MirrorRubbing(r)), impl.DarkRows(r))
	}
}
