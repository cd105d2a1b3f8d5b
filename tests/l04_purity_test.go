package tests

import (
	"math"
	"slices"
	"strings"
	"sync"
	"testing"

	"loop.example/g01398/impl"
)

// This file holds all functions of chapter 4 to promise 1, with the conventions behind it: each call gets the same arguments.

type stoneArgs struct {
	face        impl.Face
	left, right string
	list        []string
	wide, slack int64
	indices     []int64
	pieces      []impl.Piece
}

func stoneCalls() []call[stoneArgs] {
	two := func(a any, code int64) []any { return []any{a, code} }
	return []call[stoneArgs]{
		{"ValidList", func(a stoneArgs) []any { return []any{impl.ValidList(a.list)} }, false},
		{"FillWord", func(a stoneArgs) []any {
			r, c := impl.FillWord(a.face, a.left, a.right, a.list, a.wide, a.slack)
			return two(r, c)
		}, true},
		{"BestFill", func(a stoneArgs) []any {
			i, by, c := impl.BestFill(a.face, a.left, a.right, a.list, a.wide)
			return []any{i, by, c}
		}, true},
		{"FillTwo", func(a stoneArgs) []any {
			r, c := impl.FillTwo(a.face, a.left, a.right, a.list, a.wide, a.slack)
			return two(r, c)
		}, true},
		{"FillLetter", func(a stoneArgs) []any {
			r, c := impl.FillLetter(a.face, a.left, a.right, a.wide, a.slack)
			return two(r, c)
		}, true},
		{"MatchWorn", func(a stoneArgs) []any { r, c := impl.MatchWorn(a.left, a.list); return two(r, c) }, true},
		{"WornOf", func(a stoneArgs) []any { r, c := impl.WornOf(a.left, a.indices); return two(r, c) }, true},
		{"Agree", func(a stoneArgs) []any { r, c := impl.Agree(a.left, a.right); return two(r, c) }, true},
		{"CanTurn", func(a stoneArgs) []any { return []any{impl.CanTurn(a.left)} }, false},
		{"TurnText", func(a stoneArgs) []any { r, c := impl.TurnText(a.left); return two(r, c) }, true},
		{"TurnedWords", func(a stoneArgs) []any { r, c := impl.TurnedWords(a.list); return two(r, c) }, true},
		{"CutAgain", func(a stoneArgs) []any { r, c := impl.CutAgain(a.left, a.right); return two(r, c) }, true},
		{"BestStone", func(a stoneArgs) []any { i, n, c := impl.BestStone(a.list, a.left); return []any{i, n, c} }, true},
		{"ValidPieces", func(a stoneArgs) []any { return []any{impl.ValidPieces(a.pieces)} }, false},
		{"CanJoin", func(a stoneArgs) []any {
			last := len(a.pieces) - 1
			return []any{last >= 0 && impl.CanJoin(a.pieces[0], a.pieces[last])}
		}, false},
		{"JoinsOf", func(a stoneArgs) []any { r, c := impl.JoinsOf(a.pieces); return two(r, c) }, true},
		{"JoinAll", func(a stoneArgs) []any { r, c := impl.JoinAll(a.pieces, a.indices); return two(r, c) }, true},
		{"LongestRow", func(a stoneArgs) []any { r, c := impl.LongestRow(a.pieces); return two(r, c) }, true},
		{"RowsThat", func(a stoneArgs) []any { r, c := impl.RowsThat(a.pieces, a.list); return two(r, c) }, true},
		{"PiecesText", func(a stoneArgs) []any { return []any{impl.PiecesText(a.pieces)} }, false},
		{"ReadPieces", func(a stoneArgs) []any { r, c := impl.ReadPieces(a.left); return two(r, c) }, true},
	}
}

// The functions that take a face, a list, a text (as left), two texts, and pieces, all of which have to be valid.
var (
	stonesWithFace   = []string{"FillWord", "BestFill", "FillTwo", "FillLetter"}
	stonesWithList   = []string{"FillWord", "BestFill", "FillTwo", "MatchWorn", "TurnedWords", "RowsThat"}
	stonesWithText   = []string{"WornOf", "TurnText", "CutAgain", "BestStone"}
	stonesWithPieces = []string{"JoinsOf", "JoinAll", "LongestRow", "RowsThat"}
)

func stoneIndices() [][]int64 {
	return [][]int64{nil, {0}, {1}, {0, 1}, {1, 0}, {0, 1, 2}, {2, 0, 1}, {0, 0}, {8}, {-1}, {0, 8}, {math.MaxInt64, math.MinInt64}, slices.Repeat([]int64{0}, 1000)}
}

// stoneTexts are those of all kinds that a function takes.
func stoneTexts() []string {
	return []string{"", "A", "SWIMS", "IN ", " DAYS", " ", "HE LIED", "G..D", "....", "NO", strings.Repeat("M", impl.MaxText), strings.Repeat("N", 20), "0:HE:7\n248:RE:0\n", "0::0\n", strings.Repeat("A ", 500)}
}

// stoneCases are ordinary arguments, each with all others, and others of all kinds.
func stoneCases() []stoneArgs {
	faces := []impl.Face{exampleFace(), unevenFace(), plainFace(manyPairs(impl.MaxPairs)...)}
	lists, indices, pieces := goodLists(), stoneIndices(), goodPieces()
	pieces = slices.DeleteFunc(pieces, func(text string) bool { return text == anyRow+" "+anyRow }) // has many rows, and is looked at elsewhere
	numbers := []int64{0, 1, 34, 50, 74, 120, 718, impl.MaxWide, impl.MaxWide + 1, -1, math.MaxInt64, math.MinInt64}
	slacks := []int64{0, 6, 50, impl.MaxSlack, impl.MaxSlack, impl.MaxSlack + 1, -1, math.MaxInt64, math.MinInt64, 1 << 32}
	var cases []stoneArgs
	for i, left := range stoneTexts() {
		for j, right := range append(stoneTexts(), "GOOD", left) {
			for k := range max(len(lists), len(pieces)) {
				n := i + j + k
				cases = append(cases, stoneArgs{faces[n%len(faces)], left, right, lists[(i+k)%len(lists)], numbers[n%len(numbers)], slacks[n%len(slacks)], indices[n%len(indices)], piecesOf(pieces[k%len(pieces)])})
			}
		}
	}
	ordinary := stoneArgs{exampleFace(), "GOOD", "GOOD", exampleList(), 120, 100, []int64{0, 1}, piecesOf(examplePieces)}
	add := func(change func(a *stoneArgs)) {
		a := ordinary
		change(&a)
		cases = append(cases, a)
	}
	for _, f := range badFaces() {
		add(func(a *stoneArgs) { a.face = f })
	}
	for _, list := range badLists() {
		add(func(a *stoneArgs) { a.list = list })
	}
	for _, list := range badPieces() {
		add(func(a *stoneArgs) { a.pieces = list })
	}
	for _, text := range slices.Concat(badTexts(), badSides(), badWorn()) {
		add(func(a *stoneArgs) { a.left = text })
		add(func(a *stoneArgs) { a.right = text })
	}
	return cases
}

func TestP1StonesReturnForAllArguments(t *testing.T) {
	for _, a := range stoneCases() {
		for _, c := range stoneCalls() {
			isCall(t, c, a)
		}
	}
}

func TestP1StonesReturnForGreatArguments(t *testing.T) {
	const great = 1_000_000
	f := plainFace()
	f.Pairs = make([]impl.Pair, great)
	texts := []string{strings.Repeat("A", great), strings.Repeat("A ", great/2), strings.Repeat(" ", great), strings.Repeat(".", great), strings.Repeat("\n", great), strings.Repeat(":", great), strings.Repeat("0:A:0\n", great/6), "0:" + strings.Repeat("A", great) + ":0\n", strings.Repeat("1", great) + ":A:0\n"}
	lists := [][]string{make([]string, great), slices.Repeat([]string{"A"}, great), {strings.Repeat("A", great)}}
	indices := [][]int64{make([]int64, great), slices.Repeat([]int64{0, 1}, great/2), slices.Repeat([]int64{-1}, great)}
	pieces := [][]impl.Piece{make([]impl.Piece, great), slices.Repeat(piecesOf(anyRow), great/4), {{Text: strings.Repeat("A", great)}}}
	for i, text := range texts {
		k := i % 3
		a := stoneArgs{f, text, text, lists[k], math.MaxInt64, math.MaxInt64, indices[k], pieces[k]}
		b := stoneArgs{exampleFace(), text, text, exampleList(), 50, 50, indices[k], piecesOf(anyRow)}
		for _, c := range stoneCalls() {
			results := c.run(a)
			if c.code && results[len(results)-1] == int64(impl.OK) {
				t.Errorf("%s takes great arguments", c.name)
			}
			isCall(t, c, a)
			isCall(t, c, b)
			isCall(t, c, stoneArgs{exampleFace(), "GOOD", text, lists[k], 50, 50, indices[k], piecesOf(anyRow)})
		}
	}
}

func TestP1StonesOfEqualArgumentsAreEqual(t *testing.T) {
	haveEqualResults(t, stoneCases(), stoneCalls(), func(a stoneArgs) stoneArgs {
		a.face.Pairs, a.list, a.indices, a.pieces = elsewhere(a.face.Pairs), elsewhere(a.list), elsewhere(a.indices), elsewhere(a.pieces)
		a.left, a.right = strings.Clone(a.left), strings.Clone(a.right)
		return a
	})
}

func TestP1RowsOfJustMaxPiecesAreEqual(t *testing.T) {
	// All pieces join each other, so that there are more than a hundred thousand rows.
	list := piecesOf(anyRow + " " + anyRow)
	for range 5 {
		row, code := impl.LongestRow(list)
		is(t, "LongestRow", []any{row, code}, []any{[]int64{0, 1, 2, 3, 4, 5, 6, 7}, 0})
		rows, code := impl.RowsThat(list, exampleList())
		is(t, "RowsThat", []any{rows, code}, []any{[][]int64{}, 0})
	}
}

func TestP1RowsOfManyCallsAtOnce(t *testing.T) {
	var calls sync.WaitGroup
	for _, text := range goodPieces() {
		list := piecesOf(text)
		want, _ := impl.RowsThat(list, []string{"HERE", "A", "AB"})
		longest, _ := impl.LongestRow(list)
		for range 4 {
			calls.Go(func() {
				rows, code := impl.RowsThat(list, []string{"HERE", "A", "AB"})
				is(t, "RowsThat at once", []any{rows, code}, []any{want, 0})
				row, code := impl.LongestRow(list)
				is(t, "LongestRow at once", []any{row, code}, []any{longest, 0})
			})
		}
	}
	calls.Wait()
}

func TestP1RowsLeaveNoGoroutines(t *testing.T) {
	leaveNoGoroutines(t, func() {
		for range 50 {
			for _, text := range []string{"", examplePieces, ring, twins} {
				impl.LongestRow(piecesOf(text))
				impl.RowsThat(piecesOf(text), exampleList())
			}
		}
	})
}

func guardStones(a stoneArgs) (stoneArgs, func() bool) {
	pairs := guard(&a.face.Pairs, impl.Pair{A: 'X', B: 'Y', By: 9})
	list := guard(&a.list, "SPARE")
	indices := guard(&a.indices, 1)
	pieces := guard(&a.pieces, impl.Piece{Text: "SPARE", Left: 248, Right: 7})
	return a, func() bool { return pairs() && list() && indices() && pieces() }
}

func TestP1StonesDoNotModifyArguments(t *testing.T) {
	doNotModify(t, stoneCases(), stoneCalls(), guardStones)
}

func TestP1StonesShareNoMemory(t *testing.T) {
	shareNoMemory(t, stoneCases(), stoneCalls(), guardStones)
}

func TestP1RowsShareNoMemoryWithEachOther(t *testing.T) {
	// One row is the beginning of another one.
	list := piecesOf("0:A:0 255::0 255::0 255::0")
	rows, code := impl.RowsThat(list, []string{"A"})
	is(t, "RowsThat", []any{len(rows), code}, []any{16, 0})
	for i := range rows {
		again, _ := impl.RowsThat(list, []string{"A"})
		all := again[i][:cap(again[i])]
		for j := range all {
			all[j] = 99
		}
		for j := range again {
			if j != i && !slices.Equal(again[j], rows[j]) {
				t.Errorf("writing into row %d changes row %d to %d", i, j, again[j])
			}
		}
	}
}

func TestP1InvalidArgumentsOfStonesComeFirst(t *testing.T) {
	// Everything else is wrong too, or nothing else is, or only a limit is passed.
	wrong := stoneArgs{exampleFace(), "A", "a  ", exampleList(), -1, -1, []int64{-1, 0, 0}, piecesOf(examplePieces)}
	right := stoneArgs{exampleFace(), "GOOD", "GOOD", exampleList(), 120, 6, []int64{0, 1}, piecesOf(examplePieces)}
	odd := stoneArgs{exampleFace(), "NO  ", "NO  ", nil, impl.MaxWide + 1, impl.MaxSlack + 1, []int64{0, 8}, piecesOf(anyRow)}
	for _, c := range stoneCalls() {
		for _, a := range []stoneArgs{wrong, right, odd} {
			if slices.Contains(stonesWithFace, c.name) {
				for name, f := range badFaces() {
					b := a
					b.face = f
					isError(t, name, c, b, impl.ErrInvalid)
				}
			}
			if slices.Contains(stonesWithList, c.name) {
				for name, list := range badLists() {
					b := a
					b.list = list
					isError(t, name, c, b, impl.ErrInvalid)
				}
			}
			if slices.Contains(stonesWithText, c.name) {
				for _, text := range badTexts() {
					b := a
					b.left = text
					isError(t, text, c, b, impl.ErrInvalid)
				}
			}
			if slices.Contains(stonesWithPieces, c.name) {
				for name, list := range badPieces() {
					b := a
					b.pieces = list
					isError(t, name, c, b, impl.ErrInvalid)
				}
			}
		}
	}
}
