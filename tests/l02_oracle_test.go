package tests

import (
	"fmt"
	"math/rand"
	"regexp"
	"slices"
	"strings"
	"testing"

	"loop.example/g01398/impl"
)

// This file holds chapter 2 against simple programs of another kind: all lists of breaks and of words are tried, and lines are painted dot by dot.

// sets are all ascending lists of some of the numbers from low to high, in their order as lists.
func sets(low, high int64) [][]int64 {
	all := [][]int64{{}}
	for n := low; n <= high; n++ {
		for _, behind := range sets(n+1, high) {
			all = append(all, append([]int64{n}, behind...))
		}
	}
	return all
}

func allBreaks(words int) [][]int64 { return sets(1, int64(words)-1) }

func linesByHand(words []string, breaks []int64) []string {
	lines := []string{""}
	for i, word := range words {
		last := len(lines) - 1
		switch {
		case slices.Contains(breaks, int64(i)):
			lines = append(lines, word)
		case i == 0:
			lines[last] = word
		default:
			lines[last] += " " + word
		}
	}
	return lines
}

func paintedWide(f impl.Face, text string) int64 { return int64(len(painted(f, text))) }

// tried is what there is to tell of a list of breaks, whatever the width.
type tried struct {
	breaks []int64
	lines  []string
	wides  []int64
}

func tryAll(f impl.Face, text string) []tried {
	words := strings.Fields(text)
	var all []tried
	for _, breaks := range allBreaks(len(words)) {
		one := tried{breaks: breaks, lines: linesByHand(words, breaks)}
		for _, line := range one.lines {
			one.wides = append(one.wides, paintedWide(f, line))
		}
		all = append(all, one)
	}
	return all
}

func (one tried) isRight(wide int64) bool { return slices.Max(one.wides) <= wide }

func (one tried) uneven(wide int64) int64 {
	sum := int64(0)
	for i, line := range one.wides {
		if i+1 < len(one.wides) {
			sum += (wide - line) * (wide - line)
		}
	}
	return sum
}

// randomFewWords is a text of some words; where many are of few letters, many lines are as wide.
func randomFewWords(r *rand.Rand, most int) string {
	var words []string
	long, letters := 1+r.Intn(6), 1+r.Intn(4)
	for range r.Intn(most + 1) {
		word := ""
		for range 1 + r.Intn(long) {
			word += string(rune('A' + r.Intn(letters)))
		}
		words = append(words, word)
	}
	return strings.Join(words, " ")
}

func someFace(r *rand.Rand) impl.Face {
	if r.Intn(2) == 0 {
		return exampleFace()
	}
	return randomFace(r)
}

// widesNear are widths in which something changes, and others.
func widesNear(r *rand.Rand, all []tried) []int64 {
	wides := []int64{0, impl.MaxWide}
	for range 6 {
		one := all[r.Intn(len(all))]
		wides = append(wides, one.wides[r.Intn(len(one.wides))]+int64(r.Intn(3)-1))
	}
	least, most := slices.Max(all[len(all)-1].wides), all[0].wides[0]
	wides = append(wides, least, least+r.Int63n(most-least+1), least+r.Int63n(most-least+1), most)
	return slices.DeleteFunc(wides, func(wide int64) bool { return wide < 0 })
}

func TestP4NoRightBreaksAreLessUneven(t *testing.T) {
	r := rand.New(rand.NewSource(11))
	for range rounds {
		f, text := someFace(r), randomFewWords(r, 8)
		all := tryAll(f, text)
		for _, wide := range widesNear(r, all) {
			name := fmt.Sprintf(" of %q in %d with %s", text, wide, faceTextByHand(f))
			isBestByHand(t, name, f, text, wide, all)
			for _, one := range all {
				isToldByHand(t, name, f, text, wide, one)
			}
		}
	}
}

// isBestByHand tries all breaks for those that are best, the greedy ones, and how many there are.
func isBestByHand(t *testing.T, name string, f impl.Face, text string, wide int64, all []tried) {
	t.Helper()
	count, fewest := 0, 0
	var best tried
	for _, one := range all {
		if !one.isRight(wide) {
			continue
		}
		if count == 0 || one.uneven(wide) < best.uneven(wide) {
			best = one
		}
		if count == 0 || len(one.lines) < fewest {
			fewest = len(one.lines)
		}
		count++
	}
	n, code := impl.CountBreaks(f, text, wide)
	is(t, "CountBreaks"+name, []any{n, code}, []any{count, 0})
	breaks, uneven, code := impl.BestBreaks(f, text, wide)
	greedy, greedyCode := impl.GreedyBreaks(f, text, wide)
	lines, linesCode := impl.FewestLines(f, text, wide)
	if count == 0 {
		isCode(t, "BestBreaks"+name, code, impl.ErrNotFound, breaks, uneven)
		isCode(t, "GreedyBreaks"+name, greedyCode, impl.ErrNotFound, greedy)
		isCode(t, "FewestLines"+name, linesCode, impl.ErrNotFound, lines)
		return
	}
	is(t, "BestBreaks"+name, []any{breaks, uneven, code}, []any{best.breaks, best.uneven(wide), 0})
	is(t, "GreedyBreaks"+name, []any{greedy, greedyCode}, []any{greedyByHand(f, strings.Fields(text), wide), 0})
	is(t, "FewestLines"+name, []any{lines, linesCode}, []any{fewest, 0})
	is(t, "lines of GreedyBreaks"+name, len(greedy)+1, fewest)
}

// greedyByHand asks for each line which number of words is the greatest one that fits; no word is wider.
func greedyByHand(f impl.Face, words []string, wide int64) []int64 {
	var breaks []int64
	for first := 0; ; {
		most := len(words)
		for paintedWide(f, strings.Join(words[first:most], " ")) > wide {
			most--
		}
		if most == len(words) {
			return breaks
		}
		breaks = append(breaks, int64(most))
		first = most
	}
}

func isToldByHand(t *testing.T, name string, f impl.Face, text string, wide int64, one tried) {
	t.Helper()
	name = fmt.Sprint(" at ", one.breaks, name)
	right, code := impl.CheckBreaks(f, text, wide, one.breaks)
	is(t, "CheckBreaks"+name, []any{right, code}, []any{one.isRight(wide), 0})
	lines, code := impl.LinesOf(text, one.breaks)
	isTexts(t, "LinesOf"+name, lines, code, one.lines)
	uneven, code := impl.UnevenOf(f, text, wide, one.breaks)
	room, roomCode := impl.RightRoom(f, text, wide, one.breaks)
	if !one.isRight(wide) {
		isCode(t, "UnevenOf"+name, code, impl.ErrState, uneven)
		isCode(t, "RightRoom"+name, roomCode, impl.ErrState, room)
		return
	}
	is(t, "UnevenOf"+name, []any{uneven, code}, []any{one.uneven(wide), 0})
	var left []int64
	for _, line := range one.wides {
		left = append(left, wide-line)
	}
	is(t, "RightRoom"+name, []any{room, roomCode}, []any{left, 0})
}

func TestP4NoLesserWidthIsEnough(t *testing.T) {
	r := rand.New(rand.NewSource(12))
	for range rounds {
		f, text := someFace(r), randomFewWords(r, 8)
		all := tryAll(f, text)
		for _, lines := range []int64{1, 2, 3, 4, 5, 8, 9, impl.MaxText} {
			least := int64(-1)
			for _, one := range all {
				if widest := slices.Max(one.wides); int64(len(one.lines)) <= lines && (least < 0 || widest < least) {
					least = widest
				}
			}
			wide, code := impl.LeastWide(f, text, lines)
			is(t, fmt.Sprintf("LeastWide of %q for %d with %s", text, lines, faceTextByHand(f)), []any{wide, code}, []any{least, 0})
		}
	}
}

// ahead is the best way to break the words up to some word, and how many ways there are.
type ahead struct {
	found  bool
	uneven int64
	breaks []int64
	count  int64
	fewest int
}

// bestAhead goes from the first word to the last one, as the program does not.
func bestAhead(f impl.Face, words []string, wide int64) ahead {
	upTo := []ahead{{found: true, count: 1}}
	for end := 1; end <= len(words); end++ {
		var best ahead
		for first := range end {
			room := wide - paintedWide(f, strings.Join(words[first:end], " "))
			if room < 0 || !upTo[first].found {
				continue
			}
			one := upTo[first]
			if one.breaks = slices.Clone(one.breaks); first > 0 {
				one.breaks = append(one.breaks, int64(first))
			}
			if end < len(words) {
				one.uneven += room * room
			}
			one.fewest++
			one.count += best.count
			if best.found {
				one.fewest = min(one.fewest, best.fewest)
			}
			if best.found && (best.uneven < one.uneven || best.uneven == one.uneven && slices.Compare(best.breaks, one.breaks) < 0) {
				one.uneven, one.breaks = best.uneven, best.breaks
			}
			best = one
		}
		upTo = append(upTo, best)
	}
	return upTo[len(words)]
}

func TestP4LongTextsFromTheOtherEnd(t *testing.T) {
	r := rand.New(rand.NewSource(13))
	for range rounds / 4 {
		f, text := someFace(r), randomText(r)
		if r.Intn(2) == 0 {
			text = fullText
		}
		words := strings.Fields(text)
		if len(words) == 0 {
			continue
		}
		widest := int64(0)
		for _, word := range words {
			widest = max(widest, paintedWide(f, word))
		}
		for _, wide := range []int64{widest - 1, widest, widest + 1, widest + r.Int63n(50), 2 * widest, widest + r.Int63n(500), impl.MaxWide} {
			name := fmt.Sprintf(" of %q in %d with %s", text, wide, faceTextByHand(f))
			want := bestAhead(f, words, wide)
			count, code := impl.CountBreaks(f, text, wide)
			is(t, "CountBreaks"+name, []any{count, code}, []any{want.count, 0})
			breaks, uneven, code := impl.BestBreaks(f, text, wide)
			lines, linesCode := impl.FewestLines(f, text, wide)
			if !want.found {
				isCode(t, "BestBreaks"+name, code, impl.ErrNotFound, breaks, uneven)
				isCode(t, "FewestLines"+name, linesCode, impl.ErrNotFound, lines)
				continue
			}
			is(t, "BestBreaks"+name, []any{breaks, uneven, code}, []any{want.breaks, want.uneven, 0})
			is(t, "FewestLines"+name, []any{lines, linesCode}, []any{want.fewest, 0})
			greedy, code := impl.GreedyBreaks(f, text, wide)
			is(t, "GreedyBreaks"+name, []any{greedy, code}, []any{greedyByHand(f, words, wide), 0})
			least, code := impl.LeastWide(f, text, lines)
			enough := bestAhead(f, words, least)
			lesser := bestAhead(f, words, least-1)
			if code != impl.OK || !enough.found || int64(enough.fewest) > lines || lesser.found && int64(lesser.fewest) <= lines {
				t.Errorf("LeastWide for %d%s: got %d and %d", lines, name, least, code)
			}
		}
	}
}

// randomShorts are valid. Their words have few letters, so that one comes as Long and as Short, and Short may be wider.
func randomShorts(r *rand.Rand) []impl.Short {
	byLong := map[string]string{}
	letters := 2 + r.Intn(8)
	for range r.Intn(impl.MaxShorts + 1) {
		long, short := "", ""
		for range 2 + r.Intn(2) {
			long += string(rune('A' + r.Intn(letters)))
		}
		for range 1 + r.Intn(len(long)-1) {
			short += string(rune('A' + r.Intn(letters)))
		}
		byLong[long] = short
	}
	var list []impl.Short
	for long, short := range byLong {
		list = append(list, impl.Short{Long: long, Short: short})
	}
	slices.SortFunc(list, func(a, b impl.Short) int { return strings.Compare(a.Long, b.Long) })
	return list
}

// randomShortable is a text in which words of shorts are frequent.
func randomShortable(r *rand.Rand, list []impl.Short, most int) string {
	var words []string
	for range r.Intn(most + 1) {
		word := []string{"A", "B", "CC", "ABC"}[r.Intn(4)]
		if len(list) > 0 && r.Intn(3) > 0 {
			s := list[r.Intn(len(list))]
			word = []string{s.Long, s.Long, s.Short}[r.Intn(3)]
		}
		words = append(words, word)
	}
	return strings.Join(words, " ")
}

func shortOf(list []impl.Short, word string) (string, bool) {
	for _, s := range list {
		if s.Long == word {
			return s.Short, true
		}
	}
	return "", false
}

// shortenByHand returns a text with some shorts, and whether all words with these indices have one.
func shortenByHand(text string, list []impl.Short, at []int64) (string, bool) {
	words := strings.Fields(text)
	out := slices.Clone(words)
	for _, index := range at {
		short, found := shortOf(list, words[index])
		if !found {
			return "", false
		}
		out[index] = short
	}
	return strings.Join(out, " "), true
}

// fewestByHand tries all lists of words.
func fewestByHand(f impl.Face, text string, list []impl.Short, wide int64) ([]int64, bool) {
	var best []int64
	found := false
	for _, at := range sets(0, int64(len(strings.Fields(text)))-1) {
		short, can := shortenByHand(text, list, at)
		if can && paintedWide(f, short) <= wide && (!found || len(at) < len(best)) {
			best, found = at, true
		}
	}
	return best, found
}

func TestP5NoFewerShortsMakeATextFit(t *testing.T) {
	r := rand.New(rand.NewSource(14))
	for range rounds {
		f, list := someFace(r), randomShorts(r)
		text := randomShortable(r, list, 8)
		all, _, code := impl.ShortenAll(text, list)
		is(t, "ShortenAll", code, 0)
		long, short := paintedWide(f, text), paintedWide(f, all)
		low, high := min(long, short), max(long, short)
		for _, wide := range []int64{0, low - 1, low, low + 1, low + r.Int63n(high-low+1), low + r.Int63n(high-low+1), high - 1, high, impl.MaxWide} {
			if wide < 0 {
				continue
			}
			name := fmt.Sprintf("FewestShorts of %q %v in %d with %s", text, list, wide, faceTextByHand(f))
			want, found := fewestByHand(f, text, list, wide)
			words, code := impl.FewestShorts(f, text, list, wide)
			if !found {
				isCode(t, name, code, impl.ErrNotFound, words)
				continue
			}
			is(t, name, []any{words, code}, []any{want, 0})
		}
	}
}

func TestP5ShortenedTexts(t *testing.T) {
	r := rand.New(rand.NewSource(15))
	for range rounds {
		list := randomShorts(r)
		text := randomShortable(r, list, 6)
		count := len(strings.Fields(text))
		var can []int64
		for i, word := range strings.Fields(text) {
			if _, found := shortOf(list, word); found {
				can = append(can, int64(i))
			}
		}
		for _, at := range sets(0, int64(count)-1) {
			slices.Reverse(at)
			name := fmt.Sprintf("ShortenAt %q %v %d", text, list, at)
			want, found := shortenByHand(text, list, at)
			got, code := impl.ShortenAt(text, list, at)
			if !found {
				isCode(t, name, code, impl.ErrNotFound, got)
				continue
			}
			is(t, name, []any{got, code}, []any{want, 0})
		}
		want, _ := shortenByHand(text, list, can)
		got, n, code := impl.ShortenAll(text, list)
		is(t, fmt.Sprintf("ShortenAll %q %v", text, list), []any{got, n, code}, []any{want, len(can), 0})
	}
}

// longerByHand are all texts that may have been, and in how many ways words are chosen for them.
func longerByHand(words []string, list []impl.Short) ([]string, int) {
	if len(words) == 0 {
		return []string{""}, 1
	}
	behind, ways := longerByHand(words[1:], list)
	var texts []string
	count := 0
	for _, s := range append([]impl.Short{{Long: words[0], Short: words[0]}}, list...) {
		if s.Short != words[0] {
			continue
		}
		for _, text := range behind {
			texts = append(texts, strings.TrimSpace(s.Long+" "+text))
		}
		count += ways
	}
	return texts, count
}

func TestP5AllTextsThatMayHaveBeen(t *testing.T) {
	r := rand.New(rand.NewSource(16))
	for range rounds {
		list := randomShorts(r)
		if r.Intn(4) == 0 {
			list = append(list, impl.Short{Long: "Z" + strings.Repeat("A", 15+r.Intn(5)), Short: "A"})[max(0, len(list)-5):]
		}
		text := randomShortable(r, list, 7)
		if len(text) > 60 {
			continue
		}
		name := fmt.Sprintf("LengthenAll %q %v", text, list)
		want, ways := longerByHand(strings.Fields(text), list)
		got, code := impl.LengthenAll(text, list)
		if ways > 200 {
			isCode(t, name, code, impl.ErrLimit, got)
			continue
		}
		want = slices.DeleteFunc(want, func(text string) bool { return len(text) > 60 })
		slices.Sort(want)
		want = slices.Compact(want)
		isTexts(t, name, got, code, want)
	}
}

func TestP5ShortenedTextsMayHaveBeenLonger(t *testing.T) {
	r := rand.New(rand.NewSource(17))
	for range rounds {
		list := randomShorts(r)
		text := randomShortable(r, list, 5)
		for _, at := range sets(0, int64(len(strings.Fields(text)))-1) {
			short, code := impl.ShortenAt(text, list, at)
			if code != impl.OK {
				continue
			}
			texts, code := impl.LengthenAll(short, list)
			if code != impl.ErrLimit && !slices.Contains(texts, text) {
				t.Errorf("LengthenAll %q %v has no %q", short, list, text)
			}
		}
	}
}

var rightShorts = regexp.MustCompile(`^([A-Z]{2,20}=[A-Z]{1,19}( [A-Z]{2,20}=[A-Z]{1,19}){0,5})?$`)

// readShortsByHand returns the valid shorts with a text, and whether there are any.
func readShortsByHand(text string) ([]impl.Short, bool) {
	if !rightShorts.MatchString(text) {
		return nil, false
	}
	var list []impl.Short
	before := ""
	for _, part := range strings.Fields(text) {
		words := strings.Split(part, "=")
		if len(words[1]) >= len(words[0]) || words[0] <= before {
			return nil, false
		}
		list = append(list, impl.Short{Long: words[0], Short: words[1]})
		before = words[0]
	}
	return list, true
}

func shortsTextByHand(list []impl.Short) string {
	text := ""
	for _, s := range list {
		text += " " + s.Long + "=" + s.Short
	}
	return strings.TrimPrefix(text, " ")
}

func TestP5ShortsAreReadFromTheirTexts(t *testing.T) {
	r := rand.New(rand.NewSource(18))
	const odd = "ABCZ@[a== 0\n\x00\xff"
	for range 20 * rounds {
		list := randomShorts(r)
		text := shortsTextByHand(list)
		is(t, "ShortsText", impl.ShortsText(list), text)
		read, code := impl.ReadShorts(text)
		is(t, "ReadShorts "+text, []any{len(read), read, code}, []any{len(list), list, 0})
		changed := changedText(r, text, odd)
		want, found := readShortsByHand(changed)
		read, code = impl.ReadShorts(changed)
		if !found {
			isCode(t, "ReadShorts "+changed, code, impl.ErrSyntax, read)
			continue
		}
		is(t, "ReadShorts "+changed, []any{len(read), read, code}, []any{len(want), want, 0})
	}
}
