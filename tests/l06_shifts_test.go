package tests

import (
	"fmt"
	"math"
	"strings"
	"testing"

	"loop.example/g01398/impl"
)

// This file has what chapter 6 says of single lines that are cut again, with a shift.

func isKept(t *testing.T, f impl.Face, old, wanted string, shift int64, want ...int64) {
	t.Helper()
	kept, code := impl.KeptAt(f, old, wanted, shift)
	is(t, fmt.Sprint("KeptAt ", shift, " of ", old, " for ", wanted), []any{kept, code}, []any{want, 0})
}

// isShifted looks at the best shift, and that so many letters are kept with it.
func isShifted(t *testing.T, f impl.Face, old, wanted string, shift int64, kept ...int64) {
	t.Helper()
	best, count, code := impl.BestShift(f, old, wanted)
	is(t, "BestShift of "+old+" for "+wanted, []any{best, count, code}, []any{shift, len(kept), 0})
	isKept(t, f, old, wanted, shift, kept...)
}

func isRecut(t *testing.T, f impl.Face, p impl.Prices, old, wanted string, want int64) {
	t.Helper()
	price, code := impl.RecutPrice(f, p, old, wanted)
	is(t, "RecutPrice of "+old+" for "+wanted, []any{price, code}, []any{want, 0})
}

func TestP13Example(t *testing.T) {
	f := plainFace()
	isShifted(t, f, "AVE", "NAVE", -12, 1, 2, 3)
	isRecut(t, f, examplePrices(), "AVE", "NAVE", 25)
}

func TestP13LettersThatAreKept(t *testing.T) {
	// Letters are 12 apart, and 16 if there is a space.
	f := plainFace()
	isKept(t, f, "AVE", "AVE", 0, 0, 1, 2)
	isKept(t, f, "AVE", "AVE", 1)
	isKept(t, f, "AVE", "AVE", -1)
	isKept(t, f, "AVE", "AVE", 12)
	isKept(t, f, "AVE", "NAVE", -12, 1, 2, 3)
	isKept(t, f, "AVE", "NAVE", 12)
	isKept(t, f, "AVE", "NAVE", 0)
	isKept(t, f, "NAVE", "AVE", 12, 0, 1, 2)
	isKept(t, f, "NAVE", "AVE", -12)
	// At the same place, but others.
	isKept(t, f, "AVE", "EVA", 0, 1)
	isKept(t, f, "AB", "BA", 0)
	isKept(t, f, "AB", "BA", 12, 0)
	isKept(t, f, "AB", "BA", -12, 1)
	isKept(t, f, "AAA", "AAA", 12, 0, 1)
	isKept(t, f, "AAA", "AAA", -12, 1, 2)
	isKept(t, f, "AAA", "AAA", 24, 0)
	isKept(t, f, "AAA", "AAA", -24, 2)
	isKept(t, f, "AAA", "AAA", 36)
	isKept(t, f, "AAA", "AAA", 6)
	// The indices are those of wanted, without blanks.
	isKept(t, f, "VIA", "AVE VIA", -40, 3, 4, 5)
	isKept(t, f, "AVE VIA", "VIA", 40, 0, 1, 2)
	isKept(t, f, "AVE VIA", "AVEVIA", 0, 0, 1, 2)
	isKept(t, f, "AVE VIA", "AVEVIA", 4, 3, 4, 5)
	isKept(t, f, "AVEVIA", "AVE VIA", -4, 3, 4, 5)
	isKept(t, f, "A B C", "A B C", 0, 0, 1, 2)
	isKept(t, f, "A B C", "X B X", 0, 1)
	// No letters, and one.
	isKept(t, f, "", "", 0)
	isKept(t, f, "A", "", 0)
	isKept(t, f, "", "A", 0)
	isKept(t, f, "A", "A", 0, 0)
	isKept(t, f, "A", "B", 0)
	isKept(t, f, "A", "A", 400)
	isKept(t, f, "A", "A", -400)
}

func TestP13PlacesAreThoseOfTheFace(t *testing.T) {
	// The pair makes the "V" of "AVE" lie at 10 rather than at 12.
	f := exampleFace()
	isKept(t, f, "AVE", "AVE", 0, 0, 1, 2)
	isKept(t, f, "AVE", "NAVE", -12, 1, 2, 3)
	isKept(t, f, "AVE", "VE", 10, 0, 1)
	isKept(t, f, "AVE", "VE", 12)
	isKept(t, f, "AVE", "A VE", 0, 0)
	isKept(t, f, "AVE", "A VE", -6, 1, 2)
	isShifted(t, f, "AVE", "A VE", -6, 1, 2)
	isShifted(t, f, "A VE", "AVE", 6, 1, 2)
	isShifted(t, f, "NAVE", "NEVE", -2, 2, 3)
	// Of these letters each one is as wide as its number in the alphabet.
	g := unevenFace()
	isKept(t, g, "CAT", "AT", 6, 0, 1)
	isKept(t, g, "CAT", "BAT", 4, 1, 2) // the gap of "BA" is 0
	isKept(t, g, "BAT", "CAT", 0)
	isShifted(t, g, "CAT", "AT", 6, 0, 1)
	isShifted(t, g, "BAT", "AT", 2, 0, 1)
	isShifted(t, g, "ABA", "BA", 8, 0, 1)
}

func TestP13BestShifts(t *testing.T) {
	f := plainFace()
	isShifted(t, f, "AVE", "AVE", 0, 0, 1, 2)
	isShifted(t, f, "NAVE", "AVE", 12, 0, 1, 2)
	isShifted(t, f, "VIA", "AVE VIA", -40, 3, 4, 5)
	isShifted(t, f, "AVE VIA", "VIA", 40, 0, 1, 2)
	// More letters rather than a shift of a lesser size.
	isShifted(t, f, "AXXXAB", "AB", 48, 0, 1)
	isShifted(t, f, "AB", "AXXXAB", -48, 4, 5)
	isShifted(t, f, "ABXXXABC", "ABC", 60, 0, 1, 2)
	// No letters at all, and none that are the same.
	isShifted(t, f, "", "", 0)
	isShifted(t, f, "A", "", 0)
	isShifted(t, f, "", "A", 0)
	isShifted(t, f, "A", "B", 0)
	isShifted(t, f, "AVE", "SON", 0)
	isShifted(t, f, "A", "A", 0, 0)
	full := strings.Repeat("M", impl.MaxText)
	isShifted(t, f, full, full, 0, numbersBelow(60)...)
	isShifted(t, f, full, "M", 0, 0)
	isShifted(t, f, "M", full, 0, 0)
}

func TestP13SeveralShiftsThatKeepAsMany(t *testing.T) {
	f := plainFace()
	// The least size.
	isShifted(t, f, "AXXXA", "A", 0, 0)
	isShifted(t, f, "XAXXA", "A", 12, 0)
	isShifted(t, f, "AXXA", "YA", -12, 1)
	isShifted(t, f, "AXXXB", "BYA", -24, 2)
	isShifted(t, f, "AVE VIA", "AVEVIA", 0, 0, 1, 2)
	isShifted(t, f, "ABYABYYYAB", "XXXAB", 0, 3, 4)
	isShifted(t, f, "ABYYYYABY", "ZZAB", -24, 2, 3)
	isShifted(t, f, "ABYYYABY", "ZZZZAB", 12, 4, 5)
	// Of two with the same size the greater one.
	isShifted(t, f, "ABA", "XAX", 12, 1)
	isShifted(t, f, "ABA", "BAB", 12, 0, 1)
	isShifted(t, f, "AB", "BA", 12, 0)
	isShifted(t, f, "BA", "AB", 12, 0)
	isShifted(t, f, "AXA", "YAY", 12, 1)
	isShifted(t, f, "AXXXA", "YYAYY", 24, 2)
	isShifted(t, f, "ABXXABXX", "YYABY", 24, 2, 3)
	// The one to the left keeps more.
	isShifted(t, f, "ABXXAC", "YYABY", -24, 2, 3)
	isShifted(t, f, "ABAB", "BABA", 12, 0, 1, 2)
	isShifted(t, f, "ABAC", "BABA", -12, 1, 2, 3)
}

// farLine has an "A" so far to the right, 401 if wide is 11 instead of 10.
func farLine(wide int8) (impl.Face, string) {
	f := plainFace()
	f.Wide['C'-'A'] = wide
	return f, "C " + strings.Repeat("B ", 24) + "A"
}

func TestP13ShiftsOfMaxShift(t *testing.T) {
	f, line := farLine(10)
	isShifted(t, f, line, "A", 400, 0)
	isShifted(t, f, "A", line, -400, 25)
	isKept(t, f, line, "A", 399)
	isKept(t, f, "A", line, -399)
	f, line = farLine(9)
	isShifted(t, f, line, "A", 399, 0)
	isShifted(t, f, "A", line, -399, 25)
	// One further away it is not kept with any shift.
	f, line = farLine(11)
	isShifted(t, f, line, "A", 0)
	isShifted(t, f, "A", line, 0)
	isKept(t, f, line, "A", 400)
	isKept(t, f, "A", line, -400)
	// Many letters that are too far away, and a single one that is not.
	near, far := "D"+strings.Repeat("B", 32)+"PQRST", "D"+strings.Repeat("B", 33)+"PQRST"
	isShifted(t, plainFace(), near, "PQRSTD", 396, 0, 1, 2, 3, 4)
	isShifted(t, plainFace(), far, "PQRSTD", -60, 5)
	isShifted(t, plainFace(), "PQRSTD", near, -396, 33, 34, 35, 36, 37)
	isShifted(t, plainFace(), "PQRSTD", far, 60, 0)
	for _, shift := range []int64{401, -401, 1000, 1 << 32, -(1 << 32), math.MaxInt64, math.MinInt64, 1<<32 + 1} {
		for _, old := range []string{"", "A", line} {
			kept, code := impl.KeptAt(f, old, "A", shift)
			isCode(t, fmt.Sprint("KeptAt ", shift), code, impl.ErrRange, kept)
			kept, code = impl.KeptAt(f, old, "a", shift)
			isCode(t, fmt.Sprint("KeptAt of no text ", shift), code, impl.ErrInvalid, kept)
		}
	}
}

func TestP13WhatIsCutAgainCosts(t *testing.T) {
	// "A" costs 21, "B" 22, and so on; a text 100, and a letter that is filled 7.
	f, p := plainFace(), alphabetPrices(2, 100, 7)
	for _, c := range []struct {
		old, wanted string
		want        int64
	}{
		{"AVE", "AVE", 100}, {"", "", 100}, {"AVE", "", 121}, {"", "ABC", 166}, {"A", "A", 100}, {"A", "B", 129}, {"ABC", "DEF", 121 + 75},
		{"AVE", "NAVE", 134}, {"NAVE", "AVE", 107}, {"A B C", "A B C", 100}, {"A B C", "A D C", 131},
		// Of both lines the same letters are kept, and not more: one is filled, and one is cut.
		{"AB", "AC", 130}, {"AAA", "A", 114}, {"A", "AAA", 142}, {"AAA", "BAB", 114 + 44},
		// The letter that is kept is that of the shift that is told, though another one would cost less.
		{"AB", "BA", 100 + 7 + 21}, {"BA", "AB", 100 + 7 + 22}, {"AVE VIA", "AVEVIA", 100 + 3*7 + 42 + 29 + 21},
		{"AAXXXZ", "ZAA", 100 + 4*7 + 46}, {"ZXXXAA", "AAZ", 100 + 4*7 + 46},
	} {
		isRecut(t, f, p, c.old, c.wanted, c.want)
	}
	// Letters that are not all as wide.
	g := unevenFace()
	isRecut(t, g, p, "CAT", "BAT", 100+7+2+4)
	isRecut(t, g, p, "CAT", "ZAP", 100+2*7+26+52+16+32)
	isRecut(t, g, p, "BAT", "CAT", 100+7+3+6)
	// All that is free, and all that costs most.
	isRecut(t, f, impl.Prices{}, "AVE", "VIA SON", 0)
	wide := plainFace()
	wide.Wide['M'-'A'] = impl.MaxLetter
	dear := allPrices(1000, 1000, 1000, 1000)
	full := strings.Repeat("M", impl.MaxText)
	isRecut(t, wide, dear, strings.Repeat("A", impl.MaxText), full, 1000+60000+60*41000)
	isRecut(t, wide, dear, full, full, 1000)
	isRecut(t, wide, dear, full, "", 61000)
	isRecut(t, wide, dear, "", full, 1000+60*41000)
	isRecut(t, f, allPrices(0, 0, 0, 1000), "AVE", "NAV", 1000)
	isRecut(t, f, allPrices(0, 1000, 0, 0), "AVE", "NAV", 10000)
	isRecut(t, f, allPrices(1000, 0, 0, 0), "AVE", "NAV", 1000)
	isRecut(t, f, allPrices(0, 0, 1000, 0), "AVE", "NAV", 1000)
}
