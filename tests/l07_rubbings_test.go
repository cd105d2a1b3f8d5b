package tests

import (
	"fmt"
	"math"
	"strings"
	"testing"

	"loop.example/g01398/impl"
)

// This file has the example of chapter 7, and what the document says of single dots and moves, and of texts, one by one.

// dot is told by its column and its row.
type dot [2]int

func dotted(dots ...dot) impl.Rubbing {
	var r impl.Rubbing
	for _, d := range dots {
		r[d[1]] |= 1 << d[0]
	}
	return r
}

func allDark() impl.Rubbing {
	var r impl.Rubbing
	for y := range r {
		r[y] = math.MaxUint16
	}
	return r
}

// drawn has dark dots where there is "#", from the first row and column on; all others are light.
func drawn(rows ...string) impl.Rubbing {
	var dots []dot
	for y, row := range rows {
		for x, mark := range row {
			if mark == '#' {
				dots = append(dots, dot{x, y})
			}
		}
	}
	return dotted(dots...)
}

func corners() []dot { return []dot{{0, 0}, {15, 0}, {0, 7}, {15, 7}} }

// frame has all dots that are at an edge.
func frame() impl.Rubbing {
	return impl.Rubbing{0xffff, 0x8001, 0x8001, 0x8001, 0x8001, 0x8001, 0x8001, 0xffff}
}

func someRubbings() []impl.Rubbing {
	return []impl.Rubbing{{}, allDark(), frame(), dotted(corners()...), dotted(dot{2, 1}, dot{3, 1}), dotted(dot{5, 3}, dot{6, 3}), {1, 2, 4, 8, 16, 32, 64, 128}, {0xaaaa, 0x5555, 0xaaaa, 0x5555, 0xaaaa, 0x5555, 0xaaaa, 0x5555}, drawn("###", "# #", "###")}
}

// farMoves are more than MaxMove.
func farMoves() []int64 {
	return []int64{6, -6, 7, -7, 15, 16, -16, 64, 255, 256, -256, 261, 1 << 32, -(1 << 32), 1<<32 + 1, math.MaxInt64, math.MinInt64, math.MinInt64 + 1}
}

func hasDark(t *testing.T, r impl.Rubbing, count int64, rows ...int64) {
	t.Helper()
	is(t, fmt.Sprint("CountDark of ", r), impl.CountDark(r), count)
	is(t, fmt.Sprint("DarkRows of ", r), impl.DarkRows(r), rows)
}

func isMoved(t *testing.T, r impl.Rubbing, dx, dy int64, want impl.Rubbing) {
	t.Helper()
	moved, code := impl.MoveRubbing(r, dx, dy)
	is(t, fmt.Sprint("MoveRubbing of ", r, " by ", dx, " and ", dy), []any{moved, code}, []any{want, 0})
}

func matches(t *testing.T, a, b impl.Rubbing, want int64) {
	t.Helper()
	is(t, fmt.Sprint("MatchOf ", a, " and ", b), impl.MatchOf(a, b), want)
	is(t, fmt.Sprint("MatchOf ", b, " and ", a), impl.MatchOf(b, a), want)
}

func matchesAt(t *testing.T, a, b impl.Rubbing, dx, dy, want int64) {
	t.Helper()
	match, code := impl.MatchAt(a, b, dx, dy)
	is(t, fmt.Sprint("MatchAt of ", a, " and ", b, " by ", dx, " and ", dy), []any{match, code}, []any{want, 0})
}

// matchesBest looks at the best move, and that it matches as told.
func matchesBest(t *testing.T, a, b impl.Rubbing, dx, dy, match int64) {
	t.Helper()
	x, y, most := impl.BestMove(a, b)
	is(t, fmt.Sprint("BestMove of ", a, " and ", b), []any{x, y, most}, []any{dx, dy, match})
	matchesAt(t, a, b, dx, dy, match)
}

// isFirst looks that of moves with which one dot matches the first one is best.
func isFirst(t *testing.T, from, first dot, others ...dot) {
	t.Helper()
	var to []dot
	for _, m := range append(others, first) {
		to = append(to, dot{from[0] + m[0], from[1] + m[1]})
	}
	matchesBest(t, dotted(to...), dotted(from), int64(first[0]), int64(first[1]), 1)
}

func isRubbed(t *testing.T, r impl.Rubbing, want string) {
	t.Helper()
	is(t, fmt.Sprint("RubbingText of ", r), impl.RubbingText(r), want)
	read, code := impl.ReadRubbing(want)
	is(t, "ReadRubbing of\n"+want, []any{read, code}, []any{r, 0})
}

func isNoRubbing(t *testing.T, text string) {
	t.Helper()
	r, code := impl.ReadRubbing(text)
	isCode(t, fmt.Sprintf("ReadRubbing of %q", text), code, impl.ErrSyntax, r)
}

func TestP14Example(t *testing.T) {
	matchesBest(t, dotted(dot{2, 1}, dot{3, 1}), dotted(dot{5, 3}, dot{6, 3}), -3, -2, 2)
	is(t, "limits", []int{impl.RubWide, impl.RubHigh, impl.MaxMove, impl.MaxGaps, impl.MaxHands}, []int{16, 8, 5, 30, 8})
}

func TestP14DarkDots(t *testing.T) {
	hasDark(t, impl.Rubbing{}, 0, 0, 0, 0, 0, 0, 0, 0, 0)
	hasDark(t, allDark(), 128, 16, 16, 16, 16, 16, 16, 16, 16)
	hasDark(t, frame(), 44, 16, 2, 2, 2, 2, 2, 2, 16)
	hasDark(t, dotted(corners()...), 4, 2, 0, 0, 0, 0, 0, 0, 2)
	hasDark(t, impl.Rubbing{1, 3, 7, 15, 31, 63, 127, 255}, 36, 1, 2, 3, 4, 5, 6, 7, 8)
	hasDark(t, impl.Rubbing{0x8000, 0x4000, 0xc000, 0, 0x0101, 0, 0xff00, 0xfffe}, 29, 1, 1, 2, 0, 2, 0, 8, 15)
	for y := range impl.RubHigh {
		for x := range impl.RubWide {
			rows := make([]int64, impl.RubHigh)
			rows[y] = 1
			hasDark(t, dotted(dot{x, y}), 1, rows...)
		}
	}
}

func TestP14Moves(t *testing.T) {
	for _, r := range someRubbings() {
		isMoved(t, r, 0, 0, r)
	}
	r := dotted(dot{8, 4})
	isMoved(t, r, 1, 0, dotted(dot{9, 4}))
	isMoved(t, r, -1, 0, dotted(dot{7, 4}))
	isMoved(t, r, 0, 1, dotted(dot{8, 5}))
	isMoved(t, r, 0, -1, dotted(dot{8, 3}))
	isMoved(t, r, 5, 3, dotted(dot{13, 7}))
	isMoved(t, r, -5, -4, dotted(dot{3, 0}))
	isMoved(t, r, 5, -4, dotted(dot{13, 0}))
	isMoved(t, r, -5, 3, dotted(dot{3, 7}))
	isMoved(t, r, 0, 4, impl.Rubbing{})
	isMoved(t, r, 0, -5, impl.Rubbing{})
	isMoved(t, impl.Rubbing{1, 2, 4, 8, 16, 32, 64, 128}, 2, 3, impl.Rubbing{0, 0, 0, 4, 8, 16, 32, 64})
	isMoved(t, impl.Rubbing{1, 2, 4, 8, 16, 32, 64, 128}, -2, -3, impl.Rubbing{2, 4, 8, 16, 32, 0, 0, 0})
	isMoved(t, allDark(), 5, 0, impl.Rubbing{0xffe0, 0xffe0, 0xffe0, 0xffe0, 0xffe0, 0xffe0, 0xffe0, 0xffe0})
	isMoved(t, allDark(), -5, 0, impl.Rubbing{0x7ff, 0x7ff, 0x7ff, 0x7ff, 0x7ff, 0x7ff, 0x7ff, 0x7ff})
	isMoved(t, allDark(), 0, 5, impl.Rubbing{0, 0, 0, 0, 0, 0xffff, 0xffff, 0xffff})
	isMoved(t, allDark(), 0, -5, impl.Rubbing{0xffff, 0xffff, 0xffff})
	isMoved(t, allDark(), 1, 1, impl.Rubbing{0, 0xfffe, 0xfffe, 0xfffe, 0xfffe, 0xfffe, 0xfffe, 0xfffe})
}

func TestP14DotsBeyondAnEdgeAreLost(t *testing.T) {
	for y := range impl.RubHigh {
		left, right := dotted(dot{0, y}), dotted(dot{15, y})
		isMoved(t, left, -1, 0, impl.Rubbing{})
		isMoved(t, right, 1, 0, impl.Rubbing{})
		isMoved(t, left, 1, 0, dotted(dot{1, y}))
		isMoved(t, right, -1, 0, dotted(dot{14, y}))
		isMoved(t, left, 5, 0, dotted(dot{5, y}))
		isMoved(t, right, -5, 0, dotted(dot{10, y}))
		isMoved(t, left, -5, 0, impl.Rubbing{})
		isMoved(t, right, 5, 0, impl.Rubbing{})
	}
	for x := range impl.RubWide {
		top, bottom := dotted(dot{x, 0}), dotted(dot{x, 7})
		isMoved(t, top, 0, -1, impl.Rubbing{})
		isMoved(t, bottom, 0, 1, impl.Rubbing{})
		isMoved(t, top, 0, 1, dotted(dot{x, 1}))
		isMoved(t, bottom, 0, -1, dotted(dot{x, 6}))
		isMoved(t, top, 0, 5, dotted(dot{x, 5}))
		isMoved(t, bottom, 0, -5, dotted(dot{x, 2}))
		isMoved(t, top, 0, -5, impl.Rubbing{})
		isMoved(t, bottom, 0, 5, impl.Rubbing{})
	}
	// They do not come back.
	for _, m := range []struct {
		dx, dy int64
		want   impl.Rubbing
	}{{1, 0, dotted(dot{0, 0}, dot{0, 7})}, {-1, 0, dotted(dot{15, 0}, dot{15, 7})}, {0, 1, dotted(dot{0, 0}, dot{15, 0})}, {0, -1, dotted(dot{0, 7}, dot{15, 7})}, {1, 1, dotted(dot{0, 0})}, {-5, 5, dotted(dot{15, 0})}, {5, -5, dotted(dot{0, 7})}, {-5, -5, dotted(dot{15, 7})}} {
		moved, _ := impl.MoveRubbing(dotted(corners()...), m.dx, m.dy)
		isMoved(t, moved, -m.dx, -m.dy, m.want)
	}
}

func TestP14MovesOfMoreThanMaxMove(t *testing.T) {
	for _, r := range someRubbings() {
		for _, far := range farMoves() {
			for _, near := range []int64{0, 1, -1, impl.MaxMove, -impl.MaxMove} {
				moved, code := impl.MoveRubbing(r, far, near)
				isCode(t, fmt.Sprint("MoveRubbing by ", far, " and ", near), code, impl.ErrRange, moved)
				moved, code = impl.MoveRubbing(r, near, far)
				isCode(t, fmt.Sprint("MoveRubbing by ", near, " and ", far), code, impl.ErrRange, moved)
				match, code := impl.MatchAt(r, r, far, near)
				isCode(t, fmt.Sprint("MatchAt by ", far, " and ", near), code, impl.ErrRange, match)
				match, code = impl.MatchAt(r, r, near, far)
				isCode(t, fmt.Sprint("MatchAt by ", near, " and ", far), code, impl.ErrRange, match)
			}
			moved, code := impl.MoveRubbing(r, far, far)
			isCode(t, fmt.Sprint("MoveRubbing by ", far, " twice"), code, impl.ErrRange, moved)
			match, code := impl.MatchAt(r, r, far, -far)
			isCode(t, fmt.Sprint("MatchAt by ", far, " and back"), code, impl.ErrRange, match)
		}
	}
	for d := int64(-5); d <= 5; d++ {
		for e := int64(-5); e <= 5; e++ {
			_, code := impl.MoveRubbing(allDark(), d, e)
			isCode(t, fmt.Sprint("MoveRubbing by ", d, " and ", e), code, impl.OK)
		}
	}
}

func TestP14Matches(t *testing.T) {
	for _, r := range someRubbings() {
		matches(t, r, r, impl.CountDark(r))
		matches(t, r, allDark(), impl.CountDark(r))
		matches(t, r, impl.Rubbing{}, 0)
		matchesAt(t, r, r, 0, 0, impl.CountDark(r))
	}
	matches(t, impl.Rubbing{12}, impl.Rubbing{0, 12}, 0)
	matches(t, impl.Rubbing{12}, impl.Rubbing{10}, 1)
	matches(t, impl.Rubbing{0xff, 0, 0, 0, 0, 0, 0, 0xffff}, impl.Rubbing{0xf0, 0xff, 0, 0, 0, 0, 0, 0x8001}, 6)
	matches(t, frame(), dotted(corners()...), 4)
	// It is the second one that is moved.
	a, b := dotted(dot{2, 1}, dot{3, 1}), dotted(dot{5, 3}, dot{6, 3})
	matchesAt(t, a, b, -3, -2, 2)
	matchesAt(t, b, a, 3, 2, 2)
	matchesAt(t, a, b, 3, 2, 0)
	matchesAt(t, b, a, -3, -2, 0)
	matchesAt(t, a, b, -4, -2, 1)
	matchesAt(t, a, b, -2, -2, 1)
	matchesAt(t, a, b, -1, -2, 0)
	matchesAt(t, a, b, -3, -1, 0)
	matchesAt(t, a, b, 0, 0, 0)
	// Dots that are lost match nothing.
	matchesAt(t, allDark(), allDark(), 0, 0, 128)
	matchesAt(t, allDark(), allDark(), 5, 0, 88)
	matchesAt(t, allDark(), allDark(), 0, -5, 48)
	matchesAt(t, allDark(), allDark(), -5, 5, 33)
	matchesAt(t, allDark(), dotted(corners()...), -1, 0, 2)
	matchesAt(t, allDark(), dotted(corners()...), 1, 1, 1)
}

func TestP14BestMoves(t *testing.T) {
	a := drawn("", " ##  #", " # ###", " ##  #")
	for dy := int64(-1); dy <= 4; dy++ {
		for dx := int64(-1); dx <= 5; dx++ {
			b, _ := impl.MoveRubbing(a, dx, dy)
			matchesBest(t, a, b, -dx, -dy, impl.CountDark(a))
			matchesBest(t, b, a, dx, dy, impl.CountDark(a))
		}
	}
	// A greater match rather than a shorter way.
	matchesBest(t, dotted(dot{5, 2}, dot{10, 7}, dot{11, 7}), dotted(dot{5, 2}, dot{6, 2}), 5, 5, 2)
	matchesBest(t, dotted(dot{10, 7}, dot{0, 0}, dot{1, 0}), dotted(dot{5, 5}, dot{6, 5}, dot{15, 7}), -5, -5, 2)
	matchesBest(t, dotted(dot{5, 2}, dot{0, 7}, dot{1, 7}), dotted(dot{5, 2}, dot{6, 2}), -5, 5, 2)
	matchesBest(t, dotted(dot{5, 7}, dot{10, 2}, dot{11, 2}), dotted(dot{5, 7}, dot{6, 7}), 5, -5, 2)
	// A dot by MaxMove away to each side, and one more.
	for _, m := range []struct{ to, best dot }{{dot{12, 2}, dot{5, 0}}, {dot{2, 2}, dot{-5, 0}}, {dot{7, 7}, dot{0, 5}}, {dot{12, 7}, dot{5, 5}}, {dot{2, 7}, dot{-5, 5}}} {
		matchesBest(t, dotted(m.to), dotted(dot{7, 2}), int64(m.best[0]), int64(m.best[1]), 1)
		matchesBest(t, dotted(dot{7, 2}), dotted(m.to), -int64(m.best[0]), -int64(m.best[1]), 1)
	}
	for _, to := range []dot{{13, 2}, {1, 2}, {13, 7}, {1, 7}, {15, 2}} {
		matchesBest(t, dotted(to), dotted(dot{7, 2}), 0, 0, 0)
	}
	matchesBest(t, dotted(dot{7, 0}), dotted(dot{7, 6}), 0, 0, 0)
	matchesBest(t, dotted(dot{7, 6}), dotted(dot{7, 0}), 0, 0, 0)
}

func TestP14SeveralMovesThatMatchAsWell(t *testing.T) {
	// None matches anything, or all of them match as well.
	matchesBest(t, impl.Rubbing{}, impl.Rubbing{}, 0, 0, 0)
	matchesBest(t, allDark(), impl.Rubbing{}, 0, 0, 0)
	matchesBest(t, impl.Rubbing{}, allDark(), 0, 0, 0)
	matchesBest(t, dotted(dot{0, 0}), dotted(dot{15, 7}), 0, 0, 0)
	matchesBest(t, allDark(), allDark(), 0, 0, 128)
	matchesBest(t, allDark(), dotted(dot{7, 5}), 0, 0, 1)
	matchesBest(t, dotted(dot{7, 5}), allDark(), 0, 0, 1)
	// The least sum of sizes, whatever dy and dx are.
	isFirst(t, dot{7, 3}, dot{1, 0}, dot{0, 2}, dot{0, -2}, dot{-2, 0}, dot{-1, -1}, dot{1, -1})
	isFirst(t, dot{7, 3}, dot{0, 1}, dot{-2, 0}, dot{2, 0}, dot{0, -2}, dot{1, 1})
	isFirst(t, dot{7, 5}, dot{2, 2}, dot{0, -5}, dot{-5, 0}, dot{5, 0}, dot{-3, 2}, dot{-4, -1})
	isFirst(t, dot{7, 2}, dot{4, 5}, dot{5, 5}, dot{-5, 5})
	isFirst(t, dot{7, 5}, dot{5, -4}, dot{5, -5}, dot{-5, -5})
	isFirst(t, dot{0, 0}, dot{1, 1}, dot{5, 0}, dot{0, 5}, dot{3, 0}, dot{0, 3})
	// Of several of these the least dy, and not the one of the least size.
	isFirst(t, dot{7, 3}, dot{0, -1}, dot{-1, 0}, dot{1, 0}, dot{0, 1})
	isFirst(t, dot{7, 3}, dot{-1, 0}, dot{1, 0}, dot{0, 1})
	isFirst(t, dot{7, 3}, dot{1, 0}, dot{0, 1})
	isFirst(t, dot{7, 5}, dot{0, -5}, dot{-5, 0}, dot{5, 0}, dot{4, -1}, dot{-4, 1})
	isFirst(t, dot{7, 5}, dot{2, -3}, dot{-4, -1}, dot{-5, 0}, dot{5, 0}, dot{-4, 1}, dot{-3, 2})
	isFirst(t, dot{7, 3}, dot{3, 0}, dot{-2, 1}, dot{2, 1}, dot{0, 3})
	isFirst(t, dot{7, 3}, dot{1, -1}, dot{-1, 1}, dot{1, 1})
	// Then the least dx.
	isFirst(t, dot{7, 3}, dot{-1, -2}, dot{1, -2}, dot{-2, -1}, dot{2, -1})
	isFirst(t, dot{7, 3}, dot{-3, 0}, dot{3, 0})
	isFirst(t, dot{7, 3}, dot{-2, 2}, dot{2, 2})
	isFirst(t, dot{7, 2}, dot{-5, 5}, dot{5, 5})
	isFirst(t, dot{7, 5}, dot{-5, -5}, dot{5, -5})
	// The same, if several dots match with each move.
	matchesBest(t, drawn("", "  ## ##"), drawn("", "    ##"), 1, 0, 2)
	matchesBest(t, drawn("", " ##  ##"), drawn("", "   ##"), -2, 0, 2)
	matchesBest(t, drawn("###", "# #", "###"), drawn("##"), 0, 0, 2)
	matchesBest(t, drawn("# #", "", "# #"), drawn("", " #"), -1, -1, 1)
	matchesBest(t, allDark(), drawn("", "", "", "", "", "", "", "###"), 0, 0, 3)
	matchesBest(t, drawn("################"), allDark(), 0, 0, 16)
}

// movesInOrder has all moves, the best one of as many dots first.
func movesInOrder() []dot {
	var moves []dot
	for sum := 0; sum <= 10; sum++ {
		for dy := -5; dy <= 5; dy++ {
			for dx := -5; dx <= 5; dx++ {
				if max(dx, -dx)+max(dy, -dy) == sum {
					moves = append(moves, dot{dx, dy})
				}
			}
		}
	}
	return moves
}

func TestP14EachMoveIsFirstOfThoseBehindIt(t *testing.T) {
	moves := movesInOrder()
	is(t, "moves", len(moves), 121)
	for _, from := range []dot{{7, 2}, {7, 3}, {8, 5}, {5, 2}, {10, 5}} {
		var near []dot
		for _, m := range moves {
			if y := from[1] + m[1]; 0 <= y && y < impl.RubHigh {
				near = append(near, m)
			}
		}
		for i := range near {
			isFirst(t, from, near[i], near[i+1:]...)
		}
	}
}

func TestP14Texts(t *testing.T) {
	empty := strings.Repeat("................\n", 8)
	isRubbed(t, impl.Rubbing{}, empty)
	isRubbed(t, allDark(), strings.Repeat("################\n", 8))
	isRubbed(t, frame(), "################\n"+strings.Repeat("#..............#\n", 6)+"################\n")
	isRubbed(t, dotted(dot{2, 1}, dot{3, 1}), empty[:17]+"..##............\n"+empty[:17*6])
	isRubbed(t, impl.Rubbing{1, 2, 4, 8, 16, 32, 64, 0x8000}, "#...............\n.#..............\n..#.............\n...#............\n....#...........\n.....#..........\n......#.........\n...............#\n")
	isRubbed(t, impl.Rubbing{0x00ff, 0xff00, 0x0f0f, 0x5555}, "########........\n........########\n####....####....\n#.#.#.#.#.#.#.#.\n"+empty[:17*4])
	for y := range impl.RubHigh {
		for x := range impl.RubWide {
			at := 17*y + x
			isRubbed(t, dotted(dot{x, y}), empty[:at]+"#"+empty[at+1:])
		}
	}
}

func TestP14WhatIsNoTextOfARubbing(t *testing.T) {
	row, dark := "................\n", "################\n"
	empty, full := strings.Repeat(row, 8), strings.Repeat(dark, 8)
	for _, text := range []string{
		"", "\n", "#", ".", "#\n", row, dark, strings.Repeat("\n", 8), strings.Repeat("#\n", 8),
		strings.Repeat(row, 7), strings.Repeat(dark, 7), strings.Repeat(row, 9), strings.Repeat(dark, 9), strings.Repeat(row, 16),
		empty + "\n", full + "\n", empty + "#", empty + ".", empty + "\x00", "\n" + empty, " " + full, "." + empty, "#" + full,
		strings.TrimSuffix(empty, "\n"), strings.TrimSuffix(full, "\n"), strings.TrimSuffix(empty, ".\n"), full[1:], empty[1:],
		full[:16] + full[17:], full[:16] + "#" + full[17:], empty[:16] + "." + empty[16:], empty[:15] + empty[16:], full[:16] + "#" + full[16:], full[:15] + full[16:],
		empty[:15] + "\n" + empty[15:], empty[:17] + "\n" + empty[17:], strings.ReplaceAll(empty, "\n", "\r\n"), strings.ReplaceAll(empty, "\n", "\r"), strings.ReplaceAll(full, "\n", " "), strings.ReplaceAll(full, "\n", "#"),
		strings.ReplaceAll(empty, "\n", ""), strings.ReplaceAll(full, "\n", ""), strings.ReplaceAll(empty, ".", " "), strings.ReplaceAll(empty, ".", "0"), strings.ReplaceAll(full, "#", "1"), strings.ReplaceAll(full, "#", "\xa3"),
		// The next line makes up for what another one has too many.
		"...............\n.................\n" + empty[17*2:], "#################\n###############\n" + full[17*2:],
		"A text", "10 10 10;6;2;", "12 0 0 0 0 0 0 0",
	} {
		isNoRubbing(t, text)
	}
	for at := range len(full) {
		for _, odd := range []string{" ", "\n", "#", ".", "x", "\x00", "\xff", "\u00b7", ","} {
			for _, text := range []string{empty, full} {
				if changed := text[:at] + odd + text[at+1:]; odd != text[at:at+1] && (at%17 == 16 || odd != "#" && odd != ".") {
					isNoRubbing(t, changed)
				}
			}
		}
		isNoRubbing(t, full[:at])
		isNoRubbing(t, empty[:at])
		isNoRubbing(t, full[:at]+full[at+1:])
		isNoRubbing(t, empty[:at]+"."+empty[at:])
	}
}
