package tests

import (
	"fmt"
	"math/rand"
	"regexp"
	"slices"
	"strconv"
	"strings"
	"testing"

	"loop.example/g01398/impl"
)

// This file holds chapter 6 against simple programs of another kind: all lists of sheets, words and shifts are tried, lines are painted dot by dot, and letters are counted.

// piecesByHand are strips with a painted letter, and Over on both sides.
func piecesByHand(l leaf) []int64 {
	var pieces []int64
	for _, letter := range strings.Join(strings.Fields(l.text), "") {
		pieces = append(pieces, int64(l.sheet.Over)+paintedWide(l.face, string(letter))+int64(l.sheet.Over))
	}
	return pieces
}

func sumByHand(list []int64) int64 {
	sum := int64(0)
	for _, n := range list {
		sum += n
	}
	return sum
}

// randomLeaf has at most so many letters, of which often two or three fit on a sheet; sometimes a piece is too wide.
func randomLeaf(r *rand.Rand, most int) leaf {
	l := leaf{randomFace(r), impl.Sheet{Over: int8(r.Intn(impl.MaxOver + 1))}, randomFewLetters(r, most)}
	if r.Intn(3) == 0 {
		l.face.Wide = [26]int8{}
		for i := range l.face.Wide {
			l.face.Wide[i] = int8(9 + r.Intn(12))
		}
	}
	pieces := append(piecesByHand(l), 1)
	widest, sum := slices.Max(pieces), sumByHand(pieces)-1
	wide := []int64{widest, widest + r.Int63n(widest+1), widest + r.Int63n(widest+1), 2 * widest, (sum + 1) / 2, (sum + 2) / 3, (sum + 3) / 4, 1 + r.Int63n(impl.MaxSheet), widest - 1}[r.Intn(9)]
	l.sheet.Wide = int16(min(max(wide, 1), impl.MaxSheet))
	return l
}

func (l leaf) isTooNarrow() bool {
	return slices.ContainsFunc(piecesByHand(l), func(piece int64) bool { return piece > int64(l.sheet.Wide) })
}

func TestP12PiecesByHand(t *testing.T) {
	r := rand.New(rand.NewSource(61))
	for i := range 5 * rounds {
		l := randomLeaf(r, 9)
		if i%2 == 0 {
			l.text = randomText(r)
		}
		pieces := piecesByHand(l)
		bound := int64(0)
		for bound*int64(l.sheet.Wide) < sumByHand(pieces) {
			bound++
		}
		l.hasPieces(t, bound, pieces...)
	}
}

// onSheet are all pieces that have a number.
func onSheet(pieces, sheets []int64, number int64) []int64 {
	var on []int64
	for i, sheet := range sheets {
		if sheet == number {
			on = append(on, pieces[i])
		}
	}
	return on
}

// nextByHand adds up what is on the sheet of the letter before.
func nextByHand(pieces []int64, wide int64) []int64 {
	var sheets []int64
	number := int64(0)
	for _, piece := range pieces {
		if sumByHand(onSheet(pieces, sheets, number))+piece > wide {
			number++
		}
		sheets = append(sheets, number)
	}
	return sheets
}

// firstByHand adds up what is on each sheet, from the first one on.
func firstByHand(pieces []int64, wide int64) []int64 {
	var sheets []int64
	for _, piece := range pieces {
		number := int64(0)
		for sumByHand(onSheet(pieces, sheets, number))+piece > wide {
			number++
		}
		sheets = append(sheets, number)
	}
	return sheets
}

// restsByHand are what is left of each sheet, and whether the numbers are right.
func restsByHand(l leaf, sheets []int64) ([]int64, bool) {
	pieces := piecesByHand(l)
	if len(sheets) != len(pieces) {
		return nil, false
	}
	if len(sheets) == 0 {
		return nil, true
	}
	if slices.Min(sheets) < 0 || slices.Max(sheets) > 59 {
		return nil, false
	}
	var rests []int64
	for number := range slices.Max(sheets) + 1 {
		rests = append(rests, int64(l.sheet.Wide)-sumByHand(onSheet(pieces, sheets, number)))
	}
	return rests, slices.Min(rests) >= 0
}

// isCheckedByHand looks at numbers, and that gold is neither lost nor won.
func (l leaf) isCheckedByHand(t *testing.T, sheets []int64) {
	t.Helper()
	rests, right := restsByHand(l, sheets)
	if !right {
		l.isNotRight(t, sheets...)
		return
	}
	l.isRight(t, sheets, rests...)
	got, _ := impl.RestsOf(l.face, l.sheet, l.text, sheets)
	pieces, _ := impl.PiecesFor(l.face, l.sheet, l.text)
	is(t, fmt.Sprint("gold with ", sheets, l.name()), sumByHand(got)+sumByHand(pieces), len(got)*int(l.sheet.Wide))
}

func TestP12SheetsOneByOne(t *testing.T) {
	r := rand.New(rand.NewSource(62))
	narrow, better := 0, 0
	for i := range 5 * rounds {
		l := randomLeaf(r, 12)
		if i%2 == 0 {
			l.text = randomText(r)
			l.sheet.Wide = int16(40 + r.Intn(150))
		}
		if l.isTooNarrow() {
			narrow++
			l.isNoLeaf(t, impl.ErrNotFound, []int64{impl.ErrNotFound, impl.ErrLimit}[min(countByHand(l.text)/10, 1)])
			continue
		}
		pieces, wide := piecesByHand(l), int64(l.sheet.Wide)
		next, first := nextByHand(pieces, wide), firstByHand(pieces, wide)
		l.hasNext(t, countDifferent(next), next...)
		l.hasFirst(t, countDifferent(first), first...)
		l.isCheckedByHand(t, next)
		l.isCheckedByHand(t, first)
		if countDifferent(first) < countDifferent(next) {
			better++
		}
	}
	if narrow < rounds/10 || better < rounds/10 {
		t.Errorf("only %d sheets are too narrow, and %d better with the first ones", narrow, better)
	}
}

func TestP12NoFewerNumbersAreRight(t *testing.T) {
	// All lists of numbers are tried, also those that leave some out.
	r := rand.New(rand.NewSource(63))
	for range rounds {
		l := randomLeaf(r, 5)
		if l.isTooNarrow() {
			continue
		}
		var best []int64
		fewest := int64(-1)
		letters := countByHand(l.text)
		for _, sheets := range listsOf(letters, int64(min(letters+1, 5))) {
			if _, right := restsByHand(l, sheets); right && (fewest < 0 || countDifferent(sheets) < fewest) {
				best, fewest = sheets, countDifferent(sheets)
			}
		}
		l.hasFewest(t, fewest, best...)
		l.isCheckedByHand(t, best)
	}
}

// fewestSheetsByHand tries all ways to put pieces on sheets, where a sheet that is begun always has the next number: every list of numbers becomes such a one, which is not behind it, if its sheets are numbered again.
func fewestSheetsByHand(pieces []int64, wide int64) ([]int64, int64) {
	var best []int64
	fewest := int64(-1)
	sheets := make([]int64, len(pieces))
	var put func(at int, sums []int64)
	put = func(at int, sums []int64) {
		if at == len(pieces) {
			if fewest < 0 || int64(len(sums)) < fewest {
				best, fewest = slices.Clone(sheets), int64(len(sums))
			}
			return
		}
		for i := range sums {
			if sums[i]+pieces[at] <= wide {
				sheets[at] = int64(i)
				sums[i] += pieces[at]
				put(at+1, sums)
				sums[i] -= pieces[at]
			}
		}
		sheets[at] = int64(len(sums))
		put(at+1, append(slices.Clone(sums), pieces[at]))
	}
	put(0, nil)
	return best, fewest
}

func TestP12NoFewerSheetsForABatch(t *testing.T) {
	r := rand.New(rand.NewSource(64))
	better := 0
	for range 3 * rounds {
		l := randomLeaf(r, impl.MaxBatch)
		for countByHand(l.text) < 6 {
			l.text += string(rune('A' + r.Intn(26)))
		}
		if l.isTooNarrow() {
			l.isNoLeaf(t, impl.ErrNotFound, impl.ErrNotFound)
			continue
		}
		pieces, wide := piecesByHand(l), int64(l.sheet.Wide)
		best, fewest := fewestSheetsByHand(pieces, wide)
		l.hasFewest(t, fewest, best...)
		l.isCheckedByHand(t, best)
		if fewest < countDifferent(firstByHand(pieces, wide)) {
			better++
		}
		if bound, _ := impl.SheetBound(l.face, l.sheet, l.text); fewest < bound {
			t.Errorf("SheetBound%s: got %d, but there are %d sheets", l.name(), bound, fewest)
		}
	}
	if better < rounds/20 {
		t.Errorf("only %d batches are better than with the first sheets", better)
	}
}

func TestP12NumbersByHand(t *testing.T) {
	r := rand.New(rand.NewSource(65))
	right := 0
	for i := range 5 * rounds {
		l := randomLeaf(r, 12)
		sheets := make([]int64, countByHand(l.text))
		most := []int64{1, 3, 8, impl.MaxText, impl.MaxText + 1}[r.Intn(5)]
		for j := range sheets {
			sheets[j] = r.Int63n(most)
		}
		if i%3 == 0 && !l.isTooNarrow() {
			sheets = firstByHand(piecesByHand(l), int64(l.sheet.Wide))
			for j := range sheets {
				sheets[j] = (sheets[j] + most) % impl.MaxText
			}
		}
		if at := r.Intn(len(sheets) + 1); r.Intn(4) == 0 {
			sheets = slices.Insert(sheets, at, r.Int63n(3)-1)
		} else if at < len(sheets) && r.Intn(4) == 0 {
			sheets[at] = []int64{-1, 0, 1, impl.MaxText - 1, impl.MaxText}[r.Intn(5)]
		}
		l.isCheckedByHand(t, sheets)
		if _, is := restsByHand(l, sheets); is {
			right++
		}
	}
	if right < rounds || right > 4*rounds {
		t.Errorf("%d numbers are right", right)
	}
}

func randomPrices(r *rand.Rand) impl.Prices {
	most := []int{1, 2, 20, impl.MaxPrice}[r.Intn(4)]
	var p impl.Prices
	for _, n := range numbersOf(&p) {
		*n = int16(r.Intn(most + 1))
	}
	if r.Intn(2) == 0 {
		p.Gold = int16(r.Intn(3))
	}
	return p
}

// priceByHand counts each letter of the alphabet.
func priceByHand(f impl.Face, p impl.Prices, text string) int64 {
	price := int(p.Base)
	for i := range 26 {
		count := strings.Count(text, string(rune('A'+i)))
		price += count*int(p.Letter[i]) + count*int(p.Gold)*int(f.Wide[i])
	}
	return int64(price)
}

// randomBudgets are just enough for something, or 1 less, and others.
func randomBudgets(r *rand.Rand, f impl.Face, p impl.Prices, words []string) []int64 {
	budgets := []int64{0, int64(p.Base), int64(p.Base) - 1, impl.MaxBudget}
	for range 4 {
		var some []string
		for _, word := range words {
			if r.Intn(2) == 0 {
				some = append(some, word)
			}
		}
		budgets = append(budgets, priceByHand(f, p, strings.Join(some, " ")), priceByHand(f, p, strings.Join(some, " "))-1)
	}
	budgets = append(budgets, priceByHand(f, p, strings.Join(words, " ")))
	return slices.DeleteFunc(budgets, func(budget int64) bool { return budget < 0 || budget > impl.MaxBudget })
}

func TestP12NoMoreWordsCanBeBought(t *testing.T) {
	r := rand.New(rand.NewSource(66))
	for range rounds {
		f, p, text := randomFace(r), randomPrices(r), randomFewWords(r, 8)
		words := strings.Fields(text)
		all := sets(0, int64(len(words))-1)
		prices := make([]int64, len(all))
		for i, some := range all {
			var bought []string
			for _, at := range some {
				bought = append(bought, words[at])
			}
			prices[i] = priceByHand(f, p, strings.Join(bought, " "))
			hasPrice(t, f, p, strings.Join(bought, " "), prices[i])
		}
		for _, budget := range randomBudgets(r, f, p, words) {
			if budget < int64(p.Base) {
				cannotBuy(t, f, p, text, budget, impl.ErrNotFound, impl.ErrNotFound)
				continue
			}
			var best []int64
			least, ahead := int64(p.Base), 0
			for i, some := range all {
				if prices[i] > budget {
					continue
				}
				if len(some) > len(best) || len(some) == len(best) && prices[i] < least {
					best, least = some, prices[i]
				}
				if slices.Equal(some, numbersBelow(len(some))) {
					ahead = max(ahead, len(some))
				}
			}
			canBuyMost(t, f, p, text, budget, least, best...)
			canBuy(t, f, p, text, budget, int64(ahead))
		}
	}
}

func TestP12WordsOfLongTexts(t *testing.T) {
	r := rand.New(rand.NewSource(67))
	for range 3 * rounds {
		f, p, text := randomFace(r), randomPrices(r), randomText(r)
		words := strings.Fields(text)
		for _, budget := range randomBudgets(r, f, p, words) {
			if budget < int64(p.Base) {
				continue
			}
			count := 0
			for count < len(words) && priceByHand(f, p, strings.Join(words[:count+1], " ")) <= budget {
				count++
			}
			canBuy(t, f, p, text, budget, int64(count))
		}
	}
}

func TestP12CheapestByHand(t *testing.T) {
	r := rand.New(rand.NewSource(68))
	for range rounds {
		f, p := randomFace(r), randomPrices(r)
		var list []string
		var prices []int64
		for range 1 + r.Intn(20) {
			text := randomFewWords(r, 2)
			if r.Intn(3) == 0 {
				text = randomText(r)
			}
			list = append(list, text)
			prices = append(prices, priceByHand(f, p, text))
		}
		least := slices.Min(prices)
		best, price, code := impl.CheapestOf(f, p, list)
		is(t, fmt.Sprintf("CheapestOf %q with %v", list, p), []any{best, price, code}, []any{slices.Index(prices, least), least, 0})
	}
}

// lettersByPlace are the letters of a painted line by where their left sides are.
func lettersByPlace(f impl.Face, text string) map[int64]byte {
	letters := strings.Join(strings.Fields(text), "")
	byPlace := map[int64]byte{}
	for i, place := range placesByHand(painted(f, text)) {
		byPlace[place] = letters[i]
	}
	return byPlace
}

// keptByHand walks along the wanted line dot by dot.
func keptByHand(old, wanted map[int64]byte, shift int64) []int64 {
	var kept []int64
	index := int64(0)
	for place := int64(0); index < int64(len(wanted)); place++ {
		letter, isLetter := wanted[place]
		if !isLetter {
			continue
		}
		if old[place+shift] == letter {
			kept = append(kept, index)
		}
		index++
	}
	return kept
}

// shiftsBySize are all shifts, those of the least size first, and of two the one to the right.
func shiftsBySize() []int64 {
	shifts := []int64{0}
	for size := int64(1); size <= 400; size++ {
		shifts = append(shifts, size, -size)
	}
	return shifts
}

func countKept(old, wanted map[int64]byte, shift int64) int {
	count := 0
	for place, letter := range wanted {
		if old[place+shift] == letter {
			count++
		}
	}
	return count
}

// randomLines are two lines that have something of each other.
func randomLines(r *rand.Rand) (string, string) {
	old := randomText(r)
	switch r.Intn(5) {
	case 0:
		return old, randomText(r)
	case 1:
		return randomFewLetters(r, 9), randomFewLetters(r, 9)
	}
	wanted := old
	for range 1 + r.Intn(4) {
		at := r.Intn(len(wanted) + 1)
		switch r.Intn(4) {
		case 0:
			wanted = wanted[at:]
		case 1:
			wanted = wanted[:at]
		case 2:
			wanted = wanted[:at] + string(rune('A'+r.Intn(4))) + wanted[at:]
		default:
			wanted = wanted[:at] + " " + wanted[at:]
		}
	}
	wanted = strings.Join(strings.Fields(wanted), " ")
	if len(wanted) > impl.MaxText {
		wanted = strings.TrimSpace(wanted[:impl.MaxText])
	}
	if r.Intn(2) == 0 {
		return wanted, old
	}
	return old, wanted
}

func TestP13NoShiftKeepsMoreLetters(t *testing.T) {
	r := rand.New(rand.NewSource(69))
	shifts := shiftsBySize()
	moved := 0
	for range rounds {
		f := someFace(r)
		oldText, wantedText := randomLines(r)
		old, wanted := lettersByPlace(f, oldText), lettersByPlace(f, wantedText)
		best, most := int64(0), -1
		for _, shift := range shifts {
			if kept := countKept(old, wanted, shift); kept > most {
				best, most = shift, kept
			}
		}
		kept := keptByHand(old, wanted, best)
		isShifted(t, f, oldText, wantedText, best, kept...)
		if best != 0 {
			moved++
		}
		p := randomPrices(r)
		price := int64(p.Base) + int64(p.Fill)*int64(len(old)-most)
		for i, letter := range strings.Join(strings.Fields(wantedText), "") {
			if !slices.Contains(kept, int64(i)) {
				price += priceByHand(f, p, string(letter)) - int64(p.Base)
			}
		}
		isRecut(t, f, p, oldText, wantedText, price)
	}
	if moved < rounds/4 {
		t.Errorf("only %d lines are moved", moved)
	}
}

func TestP13KeptLettersByHand(t *testing.T) {
	r := rand.New(rand.NewSource(70))
	shifts := shiftsBySize()
	for range rounds / 4 {
		f := someFace(r)
		oldText, wantedText := randomLines(r)
		old, wanted := lettersByPlace(f, oldText), lettersByPlace(f, wantedText)
		_, most, _ := impl.BestShift(f, oldText, wantedText)
		for _, shift := range shifts {
			kept := keptByHand(old, wanted, shift)
			isKept(t, f, oldText, wantedText, shift, kept...)
			if int64(len(kept)) > most {
				t.Errorf("BestShift of %s for %s keeps %d, but %d keeps %d", oldText, wantedText, most, shift, len(kept))
			}
		}
	}
}

func TestP12BooksByHand(t *testing.T) {
	r := rand.New(rand.NewSource(71))
	for range 10 * rounds {
		most := []int64{1, 3, 50, impl.MaxPrice}[r.Intn(4)]
		var book []int64
		for range r.Intn([]int{3, 8, impl.MaxBook + 1}[r.Intn(3)]) {
			book = append(book, r.Int63n(2*most+1)-most)
		}
		// Every line is added up anew.
		sums := []int64{0}
		for i := range book {
			sums = append(sums, sumByHand(book[:i+1]))
		}
		least := -slices.Min(sums)
		needs(t, book, least)
		for _, start := range []int64{0, least - 1, least, least + r.Int63n(most), r.Int63n(least + 1), impl.MaxBudget} {
			if start < 0 {
				continue
			}
			var stock []int64
			for _, sum := range sums[1:] {
				stock = append(stock, start+sum)
			}
			if start >= least {
				hasStock(t, start, book, stock...)
				continue
			}
			isShort(t, start, book, int64(slices.IndexFunc(stock, func(left int64) bool { return left < 0 })))
		}
	}
}

var rightPrices = regexp.MustCompile(`^(0|[1-9][0-9]{0,2}|1000)( (0|[1-9][0-9]{0,2}|1000)){28}$`)

func TestP12PricesAreReadFromTheirTexts(t *testing.T) {
	r := rand.New(rand.NewSource(72))
	for range 10 * rounds {
		p := randomPrices(r)
		text := pricesText(p)
		is(t, "PricesText", impl.PricesText(p), text)
		if r.Intn(2) == 0 {
			text = changedText(r, text, "00123 +-a")
		}
		read, code := impl.ReadPrices(text)
		name := fmt.Sprintf("ReadPrices %q", text)
		if !rightPrices.MatchString(text) {
			isCode(t, name, code, impl.ErrSyntax, read)
			continue
		}
		var want impl.Prices
		for i, number := range strings.Fields(text) {
			n, _ := strconv.Atoi(number)
			*numbersOf(&want)[i] = int16(n)
		}
		is(t, name, []any{read, code}, []any{want, 0})
		is(t, "text of "+name, impl.PricesText(read), text)
	}
}
