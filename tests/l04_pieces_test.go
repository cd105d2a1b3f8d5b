package tests

import (
	"fmt"
	"math"
	"slices"
	"strconv"
	"strings"
	"testing"

	"loop.example/g01398/impl"
)

// This file has what chapter 4 says of single pieces and rows.

// piecesOf makes pieces, valid or not, of a text: "0:HE:7 248:RE:0"; a "_" stands for a blank.
func piecesOf(text string) []impl.Piece {
	var list []impl.Piece
	for _, one := range strings.Fields(text) {
		parts := strings.Split(one, ":")
		left, errLeft := strconv.ParseUint(parts[0], 10, 8)
		right, errRight := strconv.ParseUint(parts[2], 10, 8)
		if errLeft != nil || errRight != nil {
			panic(one)
		}
		list = append(list, impl.Piece{Text: strings.ReplaceAll(parts[1], "_", " "), Left: uint8(left), Right: uint8(right)})
	}
	return list
}

const (
	examplePieces = "0:HE:7 248:RE:0"
	// Each of ring can join the next one, and the last one the first one.
	ring = "1:A:2 253:B:3 252:C:254"
	// Each of anyRow can join each one, itself, too.
	anyRow = "127:A:128 127:B:128 127:C:128 127:D:128"
	// twins are whole rows in several ways, some with the same text.
	twins = "0:HE:7 248:RE:0 0:H:9 246:ERE:0 0:HERE:0 0:HE:7 248:R:5 250:E:0"
)

func goodPieces() []string {
	return []string{"", "0::0", "0:A:0", "255:A:255", "0:HE_LIED:128", examplePieces, ring, anyRow, anyRow + " " + anyRow, twins, "0:" + strings.Repeat("A", 20) + ":1", strings.Repeat("255:A_A:1 ", 8), "0:A:255 0:A:255 0:B:255 0:A:0", "3::252 3::252 3:AA:252"}
}

// badPieces are not valid, each ones for another reason.
func badPieces() map[string][]impl.Piece {
	bad := map[string][]impl.Piece{"too many": piecesOf(strings.Repeat("0:A:0 ", 9)), "far too many": make([]impl.Piece, 1000)}
	for _, text := range append(badTexts(), strings.Repeat("A", 21), strings.Repeat("A ", 10)+"A", "A:B", "A\nB", ":", "7", "A.B") {
		bad[text] = []impl.Piece{{Text: text}}
		bad[text+", last"] = append(piecesOf(anyRow), impl.Piece{Text: text, Left: 127, Right: 128})
		bad[text+", first"] = append([]impl.Piece{{Text: text, Right: 7}}, piecesOf("248:A:0")...)
	}
	return bad
}

func TestP9Pieces(t *testing.T) {
	for _, text := range goodPieces() {
		is(t, "ValidPieces "+text, impl.ValidPieces(piecesOf(text)), true)
	}
	for name, list := range badPieces() {
		is(t, "ValidPieces, "+name, impl.ValidPieces(list), false)
	}
}

func TestP9Example(t *testing.T) {
	list := piecesOf(examplePieces)
	is(t, "CanJoin", impl.CanJoin(list[0], list[1]), true)
	is(t, "CanJoin the other way", impl.CanJoin(list[1], list[0]), false)
	pairs, code := impl.JoinsOf(list)
	is(t, "JoinsOf", []any{pairs, code}, []any{[][2]int64{{0, 1}}, 0})
	isJoined(t, list, "HERE", 0, 1)
}

func TestP9AllEdges(t *testing.T) {
	for left := range 256 {
		for right := range 256 {
			a, b := impl.Piece{Text: "A", Left: 9, Right: uint8(right)}, impl.Piece{Text: "B", Left: uint8(left), Right: 7}
			if impl.CanJoin(a, b) != (left+right == 255) {
				t.Errorf("CanJoin %d and %d", right, left)
			}
		}
	}
	for name, list := range badPieces() {
		// Of a list that is only too long all pieces are valid.
		if len(list) > impl.MaxPieces {
			continue
		}
		odd := list[slices.IndexFunc(list, func(p impl.Piece) bool { return !impl.ValidPieces([]impl.Piece{p}) })]
		is(t, "CanJoin, "+name, impl.CanJoin(odd, impl.Piece{Left: 255 - odd.Right}), false)
		is(t, "CanJoin to, "+name, impl.CanJoin(impl.Piece{Right: 255 - odd.Left}, odd), false)
	}
}

func TestP9Joins(t *testing.T) {
	for _, c := range []struct {
		pieces string
		want   [][2]int64
	}{
		{"", nil},
		{"127:A:128", nil}, // a piece joins none but another one
		{"0:A:0 0:B:0", nil},
		{ring, [][2]int64{{0, 1}, {1, 2}, {2, 0}}},
		{"127:A:128 127:A:128", [][2]int64{{0, 1}, {1, 0}}},
		{"0:A:255 0:A:0", [][2]int64{{0, 1}}},
		{"255:A:0 255:B:0", [][2]int64{{0, 1}, {1, 0}}},
		{"248:B:0 0:A:7 248:C:7", [][2]int64{{1, 0}, {1, 2}, {2, 0}}},
		{"0:A:200 56:B:0", nil}, // these are 256 together
		{"127:A:128 127:B:128 127:C:128", [][2]int64{{0, 1}, {0, 2}, {1, 0}, {1, 2}, {2, 0}, {2, 1}}},
	} {
		pairs, code := impl.JoinsOf(piecesOf(c.pieces))
		is(t, "JoinsOf "+c.pieces, []any{pairs, code}, []any{c.want, 0})
	}
	pairs, code := impl.JoinsOf(piecesOf(anyRow + " " + anyRow))
	is(t, "JoinsOf just MaxPieces", []any{len(pairs), code}, []any{56, 0})
}

func isJoined(t *testing.T, list []impl.Piece, want string, order ...int64) {
	t.Helper()
	text, code := impl.JoinAll(list, order)
	is(t, fmt.Sprint("JoinAll ", order), []any{text, code}, []any{want, 0})
}

func TestP9RowsOfOneText(t *testing.T) {
	isJoined(t, nil, "")
	isJoined(t, piecesOf(ring), "")
	list := piecesOf(ring)
	isJoined(t, list, "ABC", 0, 1, 2)
	isJoined(t, list, "BCA", 1, 2, 0)
	isJoined(t, list, "CA", 2, 0)
	for i, text := range []string{"A", "B", "C"} {
		isJoined(t, list, text, int64(i))
	}
	isJoined(t, piecesOf(anyRow+" "+anyRow), "DDCCBBAA", 7, 3, 6, 2, 5, 1, 4, 0)
	isJoined(t, piecesOf("0:HE_LIES:255 0::255 0:HE_RE:9"), "HE LIESHE RE", 0, 1, 2)
	// The text of a row may be longer than a text.
	long := strings.Repeat("M", 20)
	isJoined(t, piecesOf(strings.Repeat("127:"+long+":128 ", 8)), strings.Repeat("M", 160), 0, 1, 2, 3, 4, 5, 6, 7)
}

func TestP9OrdersThatAreNoRows(t *testing.T) {
	isNoRow := func(pieces string, want int64, order ...int64) {
		t.Helper()
		text, code := impl.JoinAll(piecesOf(pieces), order)
		isCode(t, fmt.Sprint("JoinAll ", pieces, order), code, want, text)
	}
	for _, order := range [][]int64{{1, 0}, {0, 2}, {0, 1, 0}, {0, 1, 2, 0}, {0, 0}, {0, 1, 1}, {2, 1}, {0, 1, 2, 0, 1, 2}} {
		isNoRow(ring, impl.ErrState, order...)
	}
	// A piece could join itself, but is one, and equal pieces are two.
	isNoRow(anyRow, impl.ErrState, 0, 0)
	isNoRow(anyRow, impl.ErrState, 0, 1, 2, 1)
	isJoined(t, piecesOf("127:A:128 127:A:128"), "AA", 1, 0)
	isNoRow(anyRow, impl.ErrState, slices.Repeat([]int64{0, 1, 2, 3}, 1000)...)
	for _, index := range []int64{-1, 3, 8, 255, 256, 1 << 32, math.MaxInt64, math.MinInt64} {
		isNoRow(ring, impl.ErrRange, index)
		isNoRow(ring, impl.ErrRange, 0, index)
		isNoRow(ring, impl.ErrRange, index, 0)
		// The whole order is looked at for this before anything else.
		isNoRow(ring, impl.ErrRange, 0, 0, index)
		isNoRow(ring, impl.ErrRange, 1, 0, index)
	}
	isNoRow("", impl.ErrRange, 0)
	isNoRow("", impl.ErrRange, 0, 0)
	for name, list := range badPieces() {
		for _, order := range [][]int64{nil, {0}, {0, 0}, {-1}, {1000}} {
			text, code := impl.JoinAll(list, order)
			isCode(t, "JoinAll, "+name, code, impl.ErrInvalid, text)
		}
	}
}

func isLongest(t *testing.T, pieces string, want ...int64) {
	t.Helper()
	row, code := impl.LongestRow(piecesOf(pieces))
	is(t, "LongestRow "+pieces, []any{row, code}, []any{want, 0})
}

func TestP9LongestRows(t *testing.T) {
	isLongest(t, "")
	isLongest(t, "0:A:0", 0)
	isLongest(t, "127:A:128", 0)
	isLongest(t, "9:A:9 8:B:8 7:C:7", 0)
	isLongest(t, examplePieces, 0, 1)
	isLongest(t, "248:RE:0 0:HE:7", 1, 0)
	// A ring is a row from each of its pieces on.
	isLongest(t, ring, 0, 1, 2)
	isLongest(t, "1:A:2 252:C:254 253:B:3", 0, 2, 1)
	isLongest(t, anyRow, 0, 1, 2, 3)
	isLongest(t, anyRow+" "+anyRow, 0, 1, 2, 3, 4, 5, 6, 7)
	// The longest row begins behind others, or is not the one that goes to the first piece it can.
	isLongest(t, "9:A:9 248:B:0 0:C:7", 2, 1)
	isLongest(t, "0:A:7 248:B:0 248:C:8 247:D:0", 0, 2, 3)
	isLongest(t, "0:A:7 248:B:8 247:C:0 248:D:9 246:E:0", 0, 1, 2)
	isLongest(t, "248:B:0 248:C:0 0:A:7 0:D:7", 2, 0)
	isLongest(t, "5:A:0 5:B:0 7:C:250 0:D:7 0:E:248 0:F:248", 4, 2, 0)
	// Edges need not be whole ones, and whole ones join no other ones but 255.
	isLongest(t, "0:A:0 1:B:255 0:C:9", 1, 0)
	for name, list := range badPieces() {
		row, code := impl.LongestRow(list)
		isCode(t, "LongestRow, "+name, code, impl.ErrInvalid, row)
	}
}

func areRows(t *testing.T, pieces string, words []string, want ...[]int64) {
	t.Helper()
	rows, code := impl.RowsThat(piecesOf(pieces), words)
	is(t, fmt.Sprint("RowsThat ", pieces, words), []any{rows, code}, []any{want, 0})
}

func TestP9WholeRows(t *testing.T) {
	here := []string{"HERE", "HE"}
	areRows(t, "", here)
	areRows(t, examplePieces, nil)
	areRows(t, examplePieces, here, []int64{0, 1})
	areRows(t, "248:RE:0 0:HE:7", here, []int64{1, 0})
	// One piece is a row, if both of its edges are whole.
	areRows(t, "0:HE:0", here, []int64{0})
	areRows(t, "0:HE:0 0:HERE:0 0:HERS:0", here, []int64{0}, []int64{1})
	areRows(t, "0:HE:7 7:HE:0 7:HE:7 0:HE:255", here)
	// One edge of the row is not whole.
	areRows(t, "1:HE:7 248:RE:0", here)
	areRows(t, "0:HE:7 248:RE:1", here)
	areRows(t, "255:HE:7 248:RE:0", here)
	// Rows of several pieces with the same text.
	areRows(t, twins, here, []int64{0, 1}, []int64{0, 6, 7}, []int64{2, 3}, []int64{4}, []int64{5, 1}, []int64{5, 6, 7})
	areRows(t, twins, []string{"HERE", "HERE", "HE", "HERE"}, []int64{0, 1}, []int64{0, 6, 7}, []int64{2, 3}, []int64{4}, []int64{5, 1}, []int64{5, 6, 7})
	areRows(t, twins, []string{"HE", "RE", "HER", "HERERE", "ERE", "H"})
	// A row goes on over a whole edge that a piece with 255 joins.
	areRows(t, "0:A:255 0:B:0", []string{"AB", "B", "A", "BA"}, []int64{0, 1}, []int64{1})
	areRows(t, "0:A:0 255:B:0", []string{"AB", "B", "A", "BA"}, []int64{0}, []int64{0, 1})
	// Pieces without letters, and with blanks.
	areRows(t, "0::0", []string{"A"})
	areRows(t, "0::7 248:A:0 248::248 7:A:0", []string{"A"}, []int64{0, 1}, []int64{0, 2, 3})
	areRows(t, "0:A_B:0 0:AB:0", []string{"AB"}, []int64{1})
	// Rows are ordered as lists: one is ahead of those that begin with it.
	areRows(t, "0:A:0 255::0 255::0", []string{"A"}, []int64{0}, []int64{0, 1}, []int64{0, 1, 2}, []int64{0, 2}, []int64{0, 2, 1})
	// A ring is gone round only once.
	areRows(t, "0:A:255 0:A:255 0:A:0", []string{"A", "AA", "AAA", "AAAA"}, []int64{0, 1, 2}, []int64{0, 2}, []int64{1, 0, 2}, []int64{1, 2}, []int64{2})
	long := strings.Repeat("M", 20)
	areRows(t, "0:"+long+":0", []string{long}, []int64{0})
	areRows(t, "0:"+long+":1 254:M:0", []string{long})
	areRows(t, "0:"+long[:19]+":1 254:M:0", []string{long}, []int64{0, 1})
	areRows(t, strings.Repeat("0:A:0 ", 8), twelve(), []int64{0}, []int64{1}, []int64{2}, []int64{3}, []int64{4}, []int64{5}, []int64{6}, []int64{7})
}

func TestP9WholeRowsOfMany(t *testing.T) {
	// Seven pieces come in any order ahead of the last one.
	rows, code := impl.RowsThat(piecesOf(strings.Repeat("0:A:255 ", 7)+"0:A:0"), []string{"AAAAAAAA"})
	is(t, "RowsThat", []any{len(rows), code}, []any{5040, 0})
	for i, row := range rows {
		if i > 0 && slices.Compare(rows[i-1], row) >= 0 {
			t.Errorf("%d is behind %d", row, rows[i-1])
		}
	}
	for name, list := range badPieces() {
		rows, code := impl.RowsThat(list, exampleList())
		isCode(t, "RowsThat, "+name, code, impl.ErrInvalid, rows)
	}
	for name, list := range badLists() {
		rows, code := impl.RowsThat(piecesOf(examplePieces), list)
		isCode(t, "RowsThat, "+name, code, impl.ErrInvalid, rows)
		rows, code = impl.RowsThat(nil, list)
		isCode(t, "RowsThat, no pieces and "+name, code, impl.ErrInvalid, rows)
	}
}

func TestP9TextsOfPieces(t *testing.T) {
	is(t, "none", impl.PiecesText(nil), "")
	is(t, "example", impl.PiecesText(piecesOf(examplePieces)), "0:HE:7\n248:RE:0\n")
	is(t, "without letters", impl.PiecesText(piecesOf("255::0 0:A_B:255")), "255::0\n0:A B:255\n")
	for name, list := range badPieces() {
		is(t, "PiecesText, "+name, impl.PiecesText(list), "")
	}
	for _, text := range goodPieces() {
		list := piecesOf(text)
		read, code := impl.ReadPieces(impl.PiecesText(list))
		is(t, "ReadPieces "+text, []any{len(read), read, code}, []any{len(list), list, 0})
	}
}

func TestP9TextsOfNoPieces(t *testing.T) {
	for _, text := range []string{
		"x", " ", "\n", ":", "::", "::\n", ":A:\n", "0:A:0", "0:HE:7\n248:RE:0", "0:A:0\n\n", "\n0:A:0\n", "0:A:0\n\n0:A:0\n", "0:A:0\r\n", "0:A:0 \n", " 0:A:0\n", "0 :A:0\n", "0: A:0\n", "0:A :0\n", "0:A: 0\n", "0:A\n", "0:A:\n", ":A:0\n", "A:0:0\n", "0:0:A\n",
		"00:A:0\n", "0:A:00\n", "07:A:0\n", "0:A:07\n", "+7:A:0\n", "0:A:+7\n", "-1:A:0\n", "-0:A:0\n", "0:A:-1\n", "256:A:0\n", "0:A:256\n", "512:A:0\n", "1e1:A:0\n", "0x7:A:0\n", "1_0:A:0\n", "99999999999999999999:A:0\n", "0:A:99999999999999999999\n", "7.0:A:0\n", "٧:A:0\n",
		"0:a:0\n", "0:A  B:0\n", "0:A:B:0\n", "0:A:0:\n", "0:A:0:0\n", "0::0:0\n", "0:A.:0\n", "0:A;0\n", "0;A;0\n", "0:" + strings.Repeat("A", 21) + ":0\n", "0:" + strings.Repeat("A ", 10) + "A:0\n", strings.Repeat("0:A:0\n", 9), strings.Repeat("0:A:0\n", 8) + "\n", strings.Repeat("0:A:0\n", 8) + "0", strings.Repeat("0:A:0\n", 8) + "x\n", "0:A:0 0:A:0\n", "0:A:0\x00\n",
	} {
		list, code := impl.ReadPieces(text)
		isCode(t, fmt.Sprintf("ReadPieces %q", text), code, impl.ErrSyntax, list)
	}
	for name, list := range badPieces() {
		read, code := impl.ReadPieces(piecesTextByHand(list))
		isCode(t, "ReadPieces, "+name, code, impl.ErrSyntax, read)
	}
	list, code := impl.ReadPieces(strings.Repeat("0:A:0\n", 8))
	is(t, "ReadPieces of just MaxPieces", []any{list, code}, []any{piecesOf(strings.Repeat("0:A:0 ", 8)), 0})
}

// piecesTextByHand writes pieces, valid or not.
func piecesTextByHand(list []impl.Piece) string {
	text := ""
	for _, p := range list {
		text += fmt.Sprintf("%d:%s:%d\n", p.Left, p.Text, p.Right)
	}
	return text
}
