package tests

import (
	"fmt"
	"maps"
	"math"
	"math/rand"
	"slices"
	"sort"
	"strings"
	"testing"

	"loop.example/g01398/impl"
)

// This file holds chapter 7 against simple programs of another kind: rubbings are sets of dots, all moves are tried in their order, hands are joined pair by pair, and texts are painted.

type dotSet map[dot]bool

// dotsOf divides numbers by 2 again and again.
func dotsOf(r impl.Rubbing) dotSet {
	dots := dotSet{}
	for y, row := range r {
		for x := 0; row > 0; x++ {
			if row%2 == 1 {
				dots[dot{x, y}] = true
			}
			row /= 2
		}
	}
	return dots
}

// rubbed adds up what the dots within the edges are worth.
func (s dotSet) rubbed() impl.Rubbing {
	var r impl.Rubbing
	for d := range s {
		if 0 <= d[0] && d[0] < 16 && 0 <= d[1] && d[1] < 8 {
			r[d[1]] += uint16(math.Pow(2, float64(d[0])))
		}
	}
	return r
}

func (s dotSet) movedBy(dx, dy int) dotSet {
	moved := dotSet{}
	for d := range s {
		moved[dot{d[0] + dx, d[1] + dy}] = true
	}
	return dotsOf(moved.rubbed())
}

func (s dotSet) in(other dotSet) int64 {
	count := int64(0)
	for d := range s {
		if other[d] {
			count++
		}
	}
	return count
}

// bestByHand takes the first one of the moves in their order that matches more than all ahead of it.
func bestByHand(a, b dotSet) (dot, int64) {
	best, most := dot{}, int64(-1)
	for _, m := range movesInOrder() {
		if match := b.movedBy(m[0], m[1]).in(a); match > most {
			best, most = m, match
		}
	}
	return best, most
}

func (s dotSet) wornByHand(need int) dotSet {
	worn := maps.Clone(s)
	for d := range s {
		around := 0
		for other := range s {
			far := max(d[0]-other[0], other[0]-d[0], d[1]-other[1], other[1]-d[1])
			if far == 1 {
				around++
			}
		}
		if around < need {
			delete(worn, d)
		}
	}
	return worn
}

// randomRubbing has few dots, many, some that are close together, or a block of them.
func randomRubbing(r *rand.Rand) impl.Rubbing {
	dots := dotSet{}
	switch r.Intn(4) {
	case 0:
		for range r.Intn(8) {
			dots[dot{r.Intn(16), r.Intn(8)}] = true
		}
	case 1:
		for range r.Intn(300) {
			dots[dot{r.Intn(16), r.Intn(8)}] = true
		}
	case 2:
		at := dot{r.Intn(16), r.Intn(8)}
		for range r.Intn(40) {
			dots[at] = true
			at = dot{at[0] + r.Intn(3) - 1, at[1] + r.Intn(3) - 1}
		}
	default:
		left, top := r.Intn(16), r.Intn(8)
		for y := range 1 + r.Intn(8) {
			for x := range 1 + r.Intn(16) {
				dots[dot{left + x, top + y}] = r.Intn(9) > 0
			}
		}
		maps.DeleteFunc(dots, func(_ dot, dark bool) bool { return !dark })
	}
	return dots.rubbed()
}

// randomLike is often another rubbing that has been moved or worn, with some dots changed.
func randomLike(r *rand.Rand, like impl.Rubbing) impl.Rubbing {
	if r.Intn(3) == 0 {
		return randomRubbing(r)
	}
	dots := dotsOf(like).movedBy(r.Intn(13)-6, r.Intn(13)-6)
	for range r.Intn(4) {
		d := dot{r.Intn(16), r.Intn(8)}
		if dots[d] {
			delete(dots, d)
		} else {
			dots[d] = true
		}
	}
	return dots.rubbed()
}

func TestP14DotsByHand(t *testing.T) {
	r := rand.New(rand.NewSource(81))
	for range 5 * rounds {
		a := randomRubbing(r)
		dots := dotsOf(a)
		rows := make([]int64, 8)
		for d := range dots {
			rows[d[1]]++
		}
		hasDark(t, a, int64(len(dots)), rows...)
		b := randomLike(r, a)
		matches(t, a, b, dots.in(dotsOf(b)))
		mayBe(t, a, b, dotsOf(b).in(dots) == int64(len(dotsOf(b))))
	}
}

func TestP14MovesByHand(t *testing.T) {
	r := rand.New(rand.NewSource(82))
	for range rounds {
		a := randomRubbing(r)
		b := randomLike(r, a)
		for dy := -7; dy <= 7; dy++ {
			for dx := -7; dx <= 7; dx++ {
				x, y := int64(dx), int64(dy)
				if max(dx, -dx, dy, -dy) > 5 {
					moved, code := impl.MoveRubbing(b, x, y)
					isCode(t, fmt.Sprint("MoveRubbing by ", dx, " and ", dy), code, impl.ErrRange, moved)
					match, code := impl.MatchAt(a, b, x, y)
					isCode(t, fmt.Sprint("MatchAt by ", dx, " and ", dy), code, impl.ErrRange, match)
					continue
				}
				moved := dotsOf(b).movedBy(dx, dy)
				isMoved(t, b, x, y, moved.rubbed())
				matchesAt(t, a, b, x, y, moved.in(dotsOf(a)))
			}
		}
	}
}

func TestP14NoMoveMatchesBetter(t *testing.T) {
	r := rand.New(rand.NewSource(83))
	ties, none := 0, 0
	for range 2 * rounds {
		a := randomRubbing(r)
		b := randomLike(r, a)
		best, most := bestByHand(dotsOf(a), dotsOf(b))
		matchesBest(t, a, b, int64(best[0]), int64(best[1]), most)
		as := 0
		for dy := int64(-5); dy <= 5; dy++ {
			for dx := int64(-5); dx <= 5; dx++ {
				match, code := impl.MatchAt(a, b, dx, dy)
				if code != impl.OK || match > most {
					t.Errorf("%d dots match by %d and %d, and %d with the best move", match, dx, dy, most)
				}
				if match == most {
					as++
				}
			}
		}
		if as > 1 && most > 0 {
			ties++
		}
		if most == 0 {
			none++
		}
	}
	if ties < rounds/10 || none < rounds/40 {
		t.Errorf("only %d ties, and %d that do not match", ties, none)
	}
}

func TestP15WearByHand(t *testing.T) {
	r := rand.New(rand.NewSource(84))
	never, later := 0, 0
	for range rounds {
		a := randomRubbing(r)
		for need := range 9 {
			dots := dotsOf(a)
			counts := []int64{int64(len(dots))} // by how many times it has been worn
			for {
				worn := dots.wornByHand(need)
				wears(t, dots.rubbed(), int64(need), worn.rubbed())
				mayBe(t, a, worn.rubbed(), true)
				if len(worn) == len(dots) {
					break
				}
				dots = worn
				counts = append(counts, int64(len(dots)))
			}
			for _, bound := range []int64{0, 1, r.Int63n(129), counts[0] - 1, counts[r.Intn(len(counts))], counts[len(counts)-1], counts[len(counts)-1] - 1} {
				times := int64(slices.IndexFunc(counts, func(count int64) bool { return count <= bound }))
				switch {
				case bound < 0:
					doesNotWear(t, a, int64(need), bound, impl.ErrRange)
				case times < 0:
					never++
					doesNotWear(t, a, int64(need), bound, impl.ErrNotFound)
				default:
					wearsUntil(t, a, int64(need), bound, times)
					later += int(min(times, 2)) / 2
				}
			}
		}
	}
	if never < rounds || later < rounds {
		t.Errorf("only %d never wear so far, and %d after several times", never, later)
	}
}

func TestP15SeveralRubbingsByHand(t *testing.T) {
	r := rand.New(rand.NewSource(85))
	for range 2 * rounds {
		list := []impl.Rubbing{randomRubbing(r)}
		for range r.Intn(impl.MaxHands) {
			list = append(list, randomLike(r, list[0]))
		}
		counts := map[dot]int{}
		for _, one := range list {
			for d := range dotsOf(one) {
				counts[d]++
			}
		}
		for need := 1; need <= len(list); need++ {
			sure := dotSet{}
			for d, count := range counts {
				if count >= need {
					sure[d] = true
				}
			}
			areSure(t, int64(need), sure.rubbed(), list...)
			if need == 1 {
				areJoined(t, sure.rubbed(), list...)
			}
		}
		areNotSure(t, int64(len(list))+1, impl.ErrRange, list...)
		for _, one := range list {
			joined, _ := impl.JoinRubbings(list)
			mayBe(t, joined, one, true)
		}
	}
}

// textOfDots paints light rows, and then dark dots.
func textOfDots(dots dotSet) string {
	rows := slices.Repeat([]string{strings.Repeat(".", 16)}, 8)
	for d := range dots {
		rows[d[1]] = rows[d[1]][:d[0]] + "#" + rows[d[1]][d[0]+1:]
	}
	return strings.Join(append(rows, ""), "\n")
}

func TestP14TextsByHand(t *testing.T) {
	r := rand.New(rand.NewSource(86))
	same := 0
	for range 5 * rounds {
		a := randomRubbing(r)
		text := textOfDots(dotsOf(a))
		isRubbed(t, a, text)
		mirrored := ""
		for row := range strings.Lines(text) {
			turned := []byte(row[:16])
			slices.Reverse(turned)
			mirrored += string(turned) + "\n"
		}
		isRubbed(t, impl.MirrorRubbing(a), mirrored)
		is(t, "MirrorRubbing twice", impl.MirrorRubbing(impl.MirrorRubbing(a)), a)
		changed := changedText(r, text, "#.#.\n x")
		if isTextOfDots(changed) {
			same++
			read, code := impl.ReadRubbing(changed)
			is(t, fmt.Sprintf("text of %q", changed), []any{impl.RubbingText(read), code}, []any{changed, 0})
		} else {
			isNoRubbing(t, changed)
		}
	}
	if same < rounds/40 {
		t.Errorf("only %d changed texts can be read", same)
	}
}

func isTextOfDots(text string) bool {
	rows := strings.Split(text, "\n")
	for _, row := range rows[:len(rows)-1] {
		if len(row) != 16 || strings.Trim(row, "#.") != "" {
			return false
		}
	}
	return len(rows) == 9 && rows[8] == ""
}

// gapsByHand are the dots between the letters of a painted word.
func gapsByHand(f impl.Face, word string) []int64 {
	gaps := make([]int64, len(word)-1)
	last := int64(0)
	for _, letter := range painted(f, word) {
		if letter < 0 {
			gaps[last]++
		} else {
			last = letter
		}
	}
	return gaps
}

func TestP15GapsByHand(t *testing.T) {
	r := rand.New(rand.NewSource(87))
	for range 5 * rounds {
		f, text := randomFace(r), randomText(r)
		for _, word := range strings.Fields(text) {
			hasGaps(t, f, word, gapsByHand(f, word)...)
		}
		if strings.Contains(text, " ") {
			gaps, code := impl.GapsOf(f, text)
			isCode(t, "GapsOf "+text, code, impl.ErrInvalid, gaps)
		}
	}
}

// apartByHand takes one gap after the other from both lists.
func apartByHand(a, b []int64) int64 {
	switch {
	case len(a) == 0:
		return 10 * int64(len(b))
	case len(b) == 0:
		return 10 * int64(len(a))
	case a[0] < b[0]:
		return b[0] - a[0] + apartByHand(a[1:], b[1:])
	}
	return a[0] - b[0] + apartByHand(a[1:], b[1:])
}

// randomGaps are few small numbers, so that they are often as far apart, or any.
func randomGaps(r *rand.Rand) []int64 {
	most, size := int64(4), 4
	if r.Intn(3) == 0 {
		most, size = 100, impl.MaxGaps
	}
	var gaps []int64
	for range r.Intn(size + 1) {
		gaps = append(gaps, r.Int63n(2*most+1)-most)
	}
	return gaps
}

func randomHands(r *rand.Rand, most int) [][]int64 {
	var hands [][]int64
	for range r.Intn(most + 1) {
		hands = append(hands, randomGaps(r))
	}
	return hands
}

func TestP15NoHandIsNearer(t *testing.T) {
	r := rand.New(rand.NewSource(88))
	ties := 0
	for range 10 * rounds {
		hands, gaps := randomHands(r, impl.MaxHands+1), randomGaps(r)
		if len(hands) == 0 {
			isNotNear(t, gaps, impl.ErrNotFound)
			continue
		}
		if len(hands) > impl.MaxHands {
			isNotNear(t, gaps, impl.ErrLimit, hands...)
			continue
		}
		order := indices(len(hands))
		sort.SliceStable(order, func(i, j int) bool {
			return apartByHand(hands[order[i]], gaps) < apartByHand(hands[order[j]], gaps)
		})
		isNearest(t, gaps, int64(order[0]), apartByHand(gaps, hands[order[0]]), hands...)
		for i, h := range hands {
			areApart(t, gaps, h, apartByHand(h, gaps))
			if i != order[0] && apartByHand(gaps, h) == apartByHand(gaps, hands[order[0]]) {
				ties++
			}
		}
	}
	if ties < rounds {
		t.Errorf("only %d hands are as near", ties)
	}
}

func indices(count int) []int {
	var all []int
	for i := range count {
		all = append(all, i)
	}
	return all
}

// groupsByHand puts the greater number of a group in place of the lesser one for each two hands that are near, and numbers the groups then.
func groupsByHand(hands [][]int64, limit int64) []int64 {
	marks := indices(len(hands))
	for i := range hands {
		for j := range hands {
			if apartByHand(hands[i], hands[j]) <= limit {
				from, to := min(marks[i], marks[j]), max(marks[i], marks[j])
				for k := range marks {
					if marks[k] == from {
						marks[k] = to
					}
				}
			}
		}
	}
	numbers := map[int]int64{}
	var groups []int64
	for _, mark := range marks {
		if _, known := numbers[mark]; !known {
			numbers[mark] = int64(len(numbers))
		}
		groups = append(groups, numbers[mark])
	}
	return groups
}

func TestP15GroupsByHand(t *testing.T) {
	r := rand.New(rand.NewSource(89))
	kinds := map[string]bool{}
	for range 10 * rounds {
		hands := randomHands(r, impl.MaxHands)
		for _, limit := range []int64{0, 1, r.Int63n(20), r.Int63n(300), math.MaxInt64} {
			groups := groupsByHand(hands, limit)
			areGrouped(t, hands, limit, groups...)
			kinds[fmt.Sprint(groups)] = true
		}
	}
	if len(kinds) < rounds {
		t.Errorf("only %d kinds of groups", len(kinds))
	}
}
