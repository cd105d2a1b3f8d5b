package tests

import (
	"fmt"
	"math/rand"
	"regexp"
	"slices"
	"strconv"
	"strings"
	"testing"

	"loop.example/g01398/impl"
)

// This file holds chapter 4 against simple programs of another kind: lines are painted dot by dot, worn words are patterns, and all ways to keep letters and to lay pieces side by side are tried.

var rightSide = regexp.MustCompile(`^ ?([A-Z]+ ?)*$`)

// randomSide has letters and blanks; in about one of ten something is wrong.
func randomSide(r *rand.Rand) string {
	side := ""
	for range r.Intn([]int{3, 8, 30}[r.Intn(3)]) {
		l := string(rune('A' + r.Intn(4)))
		if r.Intn(4) == 0 && !strings.HasSuffix(side, " ") {
			l = " "
		}
		side += l
	}
	switch r.Intn(10) {
	case 0:
		return changedText(r, side, "  .a?")
	case 1, 2:
		return side
	}
	return strings.TrimSpace(side)
}

// randomList is valid; words of few letters are often equal, or equally wide.
func randomList(r *rand.Rand) []string {
	letters, long := 1+r.Intn(5), 1+r.Intn([]int{3, 6, 20}[r.Intn(3)])
	var list []string
	for range r.Intn(impl.MaxList + 1) {
		word := ""
		for range 1 + r.Intn(long) {
			word += string(rune('A' + r.Intn(letters)))
		}
		list = append(list, word)
	}
	return list
}

// filled is something that makes a valid text with what is around it.
type filled struct {
	with any
	wide int64
}

// fillsByHand are all of some things that make a valid text, with its width.
func fillsByHand[T any](f fill, all []T, text func(one T) string) []filled {
	var fills []filled
	for _, one := range all {
		if line := f.left + text(one) + f.right; validTextByHand(line) {
			fills = append(fills, filled{one, paintedWide(f.face, line)})
		}
	}
	return fills
}

// near are those whose width differs by at most slack.
func (f fill) near(fills []filled) []any {
	var near []any
	for _, one := range fills {
		for off := -f.slack; off <= f.slack; off++ {
			if one.wide == f.wide+off {
				near = append(near, one.with)
			}
		}
	}
	return near
}

func pairsByHand(list []string) [][2]int64 {
	var pairs [][2]int64
	for n := range int64(len(list) * len(list)) {
		pairs = append(pairs, [2]int64{n / int64(len(list)), n % int64(len(list))})
	}
	return pairs
}

func numbersBelow(n int) []int64 {
	var numbers []int64
	for i := range int64(n) {
		numbers = append(numbers, i)
	}
	return numbers
}

func (f fill) isByHand(t *testing.T, list []string, words, pairs, letters []filled) {
	t.Helper()
	fit, code := impl.FillWord(f.face, f.left, f.right, list, f.wide, f.slack)
	is(t, "FillWord"+f.name(list), []any{fit, code}, []any{f.near(words), 0})
	two, code := impl.FillTwo(f.face, f.left, f.right, list, f.wide, f.slack)
	is(t, "FillTwo"+f.name(list), []any{two, code}, []any{f.near(pairs), 0})
	some, code := impl.FillLetter(f.face, f.left, f.right, f.wide, f.slack)
	is(t, "FillLetter"+f.name(nil), []any{strings.Split(some, ""), code}, []any{f.near(letters), 0})
	best, by, code := impl.BestFill(f.face, f.left, f.right, list, f.wide)
	if len(words) == 0 {
		isCode(t, "BestFill"+f.name(list), code, impl.ErrNotFound, best, by)
		return
	}
	// What is put in first as the slack gets greater is best.
	g := f
	for g.slack = 0; len(g.near(words)) == 0; {
		g.slack++
	}
	is(t, "BestFill"+f.name(list), []any{best, by, code}, []any{g.near(words)[0], g.slack, 0})
}

func TestP8AllThatFitsAndNothingElse(t *testing.T) {
	r := rand.New(rand.NewSource(31))
	alphabet := strings.Split("ABCDEFGHIJKLMNOPQRSTUVWXYZ", "")
	for range 2 * rounds {
		list := randomList(r)
		f := fill{face: someFace(r), left: randomSide(r), right: randomSide(r), slack: int64(r.Intn([]int{1, 3, 12, impl.MaxSlack + 1}[r.Intn(4)]))}
		if !rightSide.MatchString(f.left) || !rightSide.MatchString(f.right) {
			f.isNoFill(t, list, impl.ErrSyntax, impl.ErrSyntax)
			continue
		}
		words := fillsByHand(f, numbersBelow(len(list)), func(i int64) string { return list[i] })
		pairs := fillsByHand(f, pairsByHand(list), func(p [2]int64) string { return list[p[0]] + " " + list[p[1]] })
		letters := fillsByHand(f, alphabet, func(l string) string { return l })
		wides := []int64{0, int64(r.Intn(300)), int64(r.Intn(1000))}
		for _, fills := range [][]filled{words, pairs, letters} {
			if len(fills) > 0 {
				wide := fills[r.Intn(len(fills))].wide
				wides = append(wides, wide, wide+f.slack, max(0, wide-f.slack), wide+f.slack+1, max(0, wide-f.slack-1))
			}
		}
		for _, wide := range wides {
			f.wide = wide
			f.isByHand(t, list, words, pairs, letters)
		}
	}
}

// wornByHand takes some letters of a word away.
func wornByHand(r *rand.Rand, word string) (string, []int64) {
	worn, chance := "", r.Intn(4)
	var gone []int64
	for i := range len(word) {
		if r.Intn(3) < chance {
			worn += "."
			gone = append(gone, int64(i))
		} else {
			worn += word[i : i+1]
		}
	}
	for range r.Intn(3) {
		if len(gone) > 0 {
			gone = append(gone, gone[r.Intn(len(gone))])
		}
	}
	r.Shuffle(len(gone), func(i, j int) { gone[i], gone[j] = gone[j], gone[i] })
	return worn, gone
}

func TestP8WornWordsAsPatterns(t *testing.T) {
	r := rand.New(rand.NewSource(32))
	for range 5 * rounds {
		list := append(randomList(r), "ABBA")
		list = list[:min(len(list), impl.MaxList)]
		word := list[r.Intn(len(list))]
		worn, gone := wornByHand(r, word)
		got, code := impl.WornOf(word, gone)
		is(t, fmt.Sprint("WornOf ", word, gone), []any{got, code}, []any{worn, 0})
		var match []int64
		for i, other := range list {
			if regexp.MustCompile("^" + worn + "$").MatchString(other) {
				match = append(match, int64(i))
			}
		}
		isMatched(t, worn, list, match...)
		second, _ := wornByHand(r, []string{word, list[r.Intn(len(list))]}[r.Intn(2)])
		agreed, code := impl.Agree(worn, second)
		want, agree := agreeByHand(worn, second)
		name := fmt.Sprintf("Agree %q and %q", worn, second)
		if !agree {
			isCode(t, name, code, impl.ErrState, agreed)
			continue
		}
		is(t, name, []any{agreed, code}, []any{want, 0})
	}
}

// agreeByHand goes through what both words have at each place.
func agreeByHand(a, b string) (string, bool) {
	if len(a) != len(b) {
		return "", false
	}
	both := ""
	for i := range len(a) {
		switch letters := strings.ReplaceAll(a[i:i+1]+b[i:i+1], ".", ""); {
		case letters == "":
			both += "."
		case len(letters) == 2 && letters[0] != letters[1]:
			return "", false
		default:
			both += letters[:1]
		}
	}
	return both, true
}

var upsideDown = strings.NewReplacer("M", "W", "W", "M", "H", "H", "I", "I", "N", "N", "O", "O", "S", "S", "X", "X", "Z", "Z", " ", " ")

// turnedByHand returns false if there is a letter that cannot be turned.
func turnedByHand(text string) (string, bool) {
	turned := ""
	for _, l := range text {
		turned = upsideDown.Replace(string(l)) + turned
	}
	return turned, !strings.ContainsAny(text, "ABCDEFGJKLPQRTUVY")
}

func randomTurnable(r *rand.Rand, letters string, long int) string {
	text := ""
	for range r.Intn(long + 1) {
		text += string(letters[r.Intn(len(letters))])
	}
	return strings.Join(strings.Fields(text), " ")
}

func TestP8TurnedTwiceIsAsItWas(t *testing.T) {
	r := rand.New(rand.NewSource(33))
	for range 10 * rounds {
		text := randomTurnable(r, []string{"HINOSXZMW ", "MW ", "MMWWOA ", "ABCDEFGHIJKLMNOPQRSTUVWXYZ "}[r.Intn(4)], impl.MaxText)
		want, can := turnedByHand(text)
		is(t, "CanTurn "+text, impl.CanTurn(text), can)
		if can {
			isTurned(t, text, want)
			continue
		}
		turned, code := impl.TurnText(text)
		isCode(t, "TurnText "+text, code, impl.ErrState, turned)
	}
}

func TestP8TurnedWordsByHand(t *testing.T) {
	r := rand.New(rand.NewSource(34))
	for range 5 * rounds {
		var list []string
		for range r.Intn(impl.MaxList + 1) {
			list = append(list, "O"+randomTurnable(r, []string{"MW", "MWO", "NOA"}[r.Intn(3)], 1+r.Intn(3))+"O")
		}
		var want [][2]int64
		for _, p := range pairsByHand(list) {
			turned, can := turnedByHand(list[p[0]])
			if p[0] <= p[1] && can && turned == list[p[1]] {
				want = append(want, p)
			}
		}
		pairs, code := impl.TurnedWords(list)
		is(t, fmt.Sprint("TurnedWords ", list), []any{pairs, code}, []any{want, 0})
	}
}

// isWithin reports whether letters can be found in a text in their order.
func isWithin(letters, text string) bool {
	pattern := strings.Join(strings.Split(letters, ""), ".*")
	return regexp.MustCompile(pattern).MatchString(text)
}

// cutByHand tries all ways to keep letters of wanted.
func cutByHand(old, wanted string) int64 {
	letters, most := strings.ReplaceAll(wanted, " ", ""), 0
	for _, kept := range sets(0, int64(len(letters))-1) {
		text := ""
		for _, i := range kept {
			text += letters[i : i+1]
		}
		if len(kept) > most && isWithin(text, old) {
			most = len(kept)
		}
	}
	return int64(len(letters) - most)
}

func TestP8NoLettersAreCutThatCouldBeKept(t *testing.T) {
	r := rand.New(rand.NewSource(35))
	for range rounds {
		letters := []string{"AB ", "ABC ", "ABCDE "}[r.Intn(3)]
		wanted := randomTurnable(r, letters, 8)
		var olds []string
		best, least := 0, int64(-1)
		for i := range 1 + r.Intn(4) {
			olds = append(olds, randomTurnable(r, letters, 20))
			cut := cutByHand(olds[i], wanted)
			isCutAgain(t, olds[i], wanted, cut)
			if least < 0 || cut < least {
				best, least = i, cut
			}
		}
		index, cut, code := impl.BestStone(olds, wanted)
		is(t, fmt.Sprintf("BestStone %q for %q", olds, wanted), []any{index, cut, code}, []any{best, least, 0})
	}
}

func TestP8LettersOfLongTexts(t *testing.T) {
	// How many letters are kept is told from the other end, as the program does not, and is the same for texts that are read backwards.
	r := rand.New(rand.NewSource(36))
	for range rounds {
		letters := []string{"AB ", "ABCD ", "ABCDEFGHIJ "}[r.Intn(3)]
		old, wanted := randomTurnable(r, letters, impl.MaxText), randomTurnable(r, letters, impl.MaxText)
		one, other := strings.ReplaceAll(old, " ", ""), strings.ReplaceAll(wanted, " ", "")
		behind := make([][]int, len(one)+1)
		for i := len(one); i >= 0; i-- {
			behind[i] = make([]int, len(other)+1)
			for j := len(other) - 1; j >= 0 && i < len(one); j-- {
				behind[i][j] = max(behind[i+1][j], behind[i][j+1])
				if one[i] == other[j] {
					behind[i][j] = behind[i+1][j+1] + 1
				}
			}
		}
		isCutAgain(t, old, wanted, int64(len(other)-behind[0][0]))
		isCutAgain(t, backwards(old), backwards(wanted), int64(len(other)-behind[0][0]))
	}
}

func backwards(text string) string {
	letters := []byte(text)
	slices.Reverse(letters)
	return string(letters)
}

// randomPieces are valid. There are few shapes of edges, so that many pieces join.
func randomPieces(r *rand.Rand, most int) []impl.Piece {
	var list []impl.Piece
	shapes := []uint8{0, 255, 7, 248, 127, 128}[:2+2*r.Intn(3)]
	if r.Intn(6) == 0 {
		shapes = []uint8{127, 128}
	}
	for range r.Intn(most + 1) {
		list = append(list, impl.Piece{Text: []string{"", "A", "A", "B", "AB", "A B"}[r.Intn(6)], Left: shapes[r.Intn(len(shapes))], Right: shapes[r.Intn(len(shapes))]})
	}
	return list
}

// ordersOf are all lists of different indices less than n, in their order as lists.
func ordersOf(n int) [][]int64 {
	orders := [][]int64{{}}
	for done := 0; done < len(orders); done++ {
		for i := range int64(n) {
			if !slices.Contains(orders[done], i) {
				orders = append(orders, append(slices.Clone(orders[done]), i))
			}
		}
	}
	slices.SortFunc(orders, slices.Compare)
	return orders
}

func isRowByHand(list []impl.Piece, order []int64) bool {
	for i := 1; i < len(order); i++ {
		if int(list[order[i-1]].Right)+int(list[order[i]].Left) != 255 {
			return false
		}
	}
	return true
}

func textByHand(list []impl.Piece, order []int64) string {
	text := ""
	for _, i := range order {
		text += list[i].Text
	}
	return text
}

func isWholeByHand(list []impl.Piece, order []int64) bool {
	return len(order) > 0 && list[order[0]].Left == 0 && list[order[len(order)-1]].Right == 0
}

func TestP9RowsJoinPieceByPiece(t *testing.T) {
	r := rand.New(rand.NewSource(37))
	words := []string{"A", "B", "AA", "AB", "ABA", "AABB", "BAB", "ABAB"}
	for range rounds {
		list := randomPieces(r, 5)
		name := fmt.Sprintf(" of %q", list)
		var longest []int64
		var whole, joins [][]int64
		for _, order := range ordersOf(len(list)) {
			if !isRowByHand(list, order) {
				text, code := impl.JoinAll(list, order)
				isCode(t, fmt.Sprint("JoinAll ", order, name), code, impl.ErrState, text)
				continue
			}
			text := textByHand(list, order)
			isJoined(t, list, text, order...)
			if len(order) > len(longest) {
				longest = order
			}
			if len(order) == 2 {
				joins = append(joins, order)
			}
			if isWholeByHand(list, order) && slices.Contains(words, text) {
				whole = append(whole, order)
			}
		}
		row, code := impl.LongestRow(list)
		is(t, "LongestRow"+name, []any{row, code}, []any{longest, 0})
		pairs, code := impl.JoinsOf(list)
		is(t, "JoinsOf"+name, []any{pairs, code}, []any{joins, 0})
		rows, code := impl.RowsThat(list, words)
		is(t, "RowsThat"+name, []any{rows, code}, []any{whole, 0})
	}
}

func TestP9RowsOfManyPieces(t *testing.T) {
	r := rand.New(rand.NewSource(38))
	orders := ordersOf(7)
	for range rounds / 20 {
		list := randomPieces(r, 0)
		for len(list) < 7 {
			list = append(list, randomPieces(r, 3)...)
		}
		list = list[:7]
		var longest []int64
		var whole [][]int64
		for _, order := range orders {
			if !isRowByHand(list, order) {
				continue
			}
			if len(order) > len(longest) {
				longest = order
			}
			if text := textByHand(list, order); isWholeByHand(list, order) && (text == "AB" || text == "AAB") {
				whole = append(whole, order)
			}
		}
		row, code := impl.LongestRow(list)
		is(t, fmt.Sprintf("LongestRow of %q", list), []any{row, code}, []any{longest, 0})
		rows, code := impl.RowsThat(list, []string{"AAB", "AB"})
		is(t, fmt.Sprintf("RowsThat of %q", list), []any{rows, code}, []any{whole, 0})
	}
}

var (
	rightPieces = regexp.MustCompile(`^((0|[1-9][0-9]{0,2}):([A-Z ]{0,20}):(0|[1-9][0-9]{0,2})\n){0,8}$`)
	rightPiece  = regexp.MustCompile(`(\d+):([A-Z ]*):(\d+)\n`)
)

// readPiecesByHand returns false if there are no pieces with a text.
func readPiecesByHand(text string) ([]impl.Piece, bool) {
	if !rightPieces.MatchString(text) {
		return nil, false
	}
	var list []impl.Piece
	for _, parts := range rightPiece.FindAllStringSubmatch(text, -1) {
		left, _ := strconv.Atoi(parts[1])
		right, _ := strconv.Atoi(parts[3])
		if left > 255 || right > 255 || !validTextByHand(parts[2]) {
			return nil, false
		}
		list = append(list, impl.Piece{Text: parts[2], Left: uint8(left), Right: uint8(right)})
	}
	return list, true
}

func TestP9PiecesAreReadFromTheirTexts(t *testing.T) {
	r := rand.New(rand.NewSource(39))
	for range 20 * rounds {
		var list []impl.Piece
		for range r.Intn(impl.MaxPieces + 1) {
			list = append(list, impl.Piece{Text: randomTurnable(r, "ABC ", 20), Left: uint8(r.Intn(256)), Right: uint8(r.Intn(256))})
		}
		text := piecesTextByHand(list)
		is(t, fmt.Sprintf("PiecesText of %q", list), impl.PiecesText(list), text)
		if r.Intn(2) == 0 {
			text = changedText(r, text, "0127::A \n-a")
		}
		want, right := readPiecesByHand(text)
		read, code := impl.ReadPieces(text)
		name := fmt.Sprintf("ReadPieces %q", text)
		if !right {
			isCode(t, name, code, impl.ErrSyntax, read)
			continue
		}
		if code != impl.OK || !slices.Equal(read, want) {
			t.Errorf("%s: got %q and %d, want %q", name, read, code, want)
		}
		is(t, "text of "+name, impl.PiecesText(read), text)
	}
}
