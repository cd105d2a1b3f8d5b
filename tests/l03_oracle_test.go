package tests

import (
	"fmt"
	"math"
	"math/rand"
	"regexp"
	"slices"
	"strconv"
	"strings"
	"testing"

	"loop.example/g01398/impl"
)

// This file holds chapter 3 against simple programs of another kind: all texts are tried, and longer ones are read letter by letter.

func signByHand(s impl.System, letter byte) int64 {
	for _, sign := range s.Signs {
		if sign.Letter == letter {
			return int64(sign.Value)
		}
	}
	return 0
}

// pairByHand returns the value of two letters if they are a minus pair, and 0 if not.
func pairByHand(s impl.System, a, b byte) int64 {
	if slices.Contains(s.Minus, [2]uint8{a, b}) {
		return signByHand(s, b) - signByHand(s, a)
	}
	return 0
}

func partsByHand(s impl.System, text string) []int64 {
	if text == "" {
		return nil
	}
	if len(text) > 1 {
		if value := pairByHand(s, text[0], text[1]); value > 0 {
			return append([]int64{value}, partsByHand(s, text[2:])...)
		}
	}
	return append([]int64{signByHand(s, text[0])}, partsByHand(s, text[1:])...)
}

// numberByHand returns the value of a number, and whether it is right.
func numberByHand(s impl.System, text string) (int64, bool) {
	sum, before, right := int64(0), int64(math.MaxInt64), true
	for _, value := range partsByHand(s, text) {
		right = right && value <= before
		before = value
		sum += value
	}
	return sum, right
}

func lettersByHand(s impl.System) []string {
	var letters []string
	for l := 'A'; l <= 'Z'; l++ {
		if signByHand(s, byte(l)) > 0 {
			letters = append(letters, string(l))
		}
	}
	return letters
}

// textsByHand are all texts of so many letters, in their order.
func textsByHand(letters []string, long int) []string {
	if long == 0 {
		return []string{""}
	}
	var texts []string
	for _, l := range letters {
		for _, behind := range textsByHand(letters, long-1) {
			texts = append(texts, l+behind)
		}
	}
	return texts
}

// greedyByParts adds the greatest part again and again, and does not stop if the number gets too long.
func greedyByParts(s impl.System, n int64) string {
	text := ""
	for n > 0 {
		best, letters := int64(0), ""
		for _, m := range s.Minus {
			if value := pairByHand(s, m[0], m[1]); value <= n && value > best {
				best, letters = value, string([]byte{m[0], m[1]})
			}
		}
		for _, sign := range s.Signs {
			if value := int64(sign.Value); value <= n && value >= best {
				best, letters = value, string([]byte{sign.Letter})
			}
		}
		text += letters
		n -= best
	}
	return text
}

// randomSystem has signs of at most so great values. Many minus pairs are worth the same, or begin with the letter that another one ends with.
func randomSystem(r *rand.Rand, signs int, most int16) impl.System {
	var s impl.System
	values := map[int16]bool{1: true}
	step := []int16{1, 1, 1 + int16(r.Intn(7))}[r.Intn(3)]
	for range 20 * signs {
		if value := 1 + step*int16(r.Intn(int(most/step)+1)); len(values) < signs && value <= most {
			values[value] = true
		}
	}
	letters := r.Perm(26)
	for value := most; value > 0; value-- {
		if values[value] {
			s.Signs = append(s.Signs, impl.Sign{Letter: byte('A' + letters[len(s.Signs)]), Value: value})
		}
	}
	for i, greater := range s.Signs {
		for _, lesser := range s.Signs[i+1:] {
			s.Minus = append(s.Minus, [2]uint8{lesser.Letter, greater.Letter})
		}
	}
	r.Shuffle(len(s.Minus), func(i, j int) { s.Minus[i], s.Minus[j] = s.Minus[j], s.Minus[i] })
	s.Minus = s.Minus[:min(len(s.Minus), r.Intn(impl.MaxMinus+1))]
	slices.SortFunc(s.Minus, func(a, b [2]uint8) int { return strings.Compare(string(a[:]), string(b[:])) })
	return s
}

// rightByHand are all right numbers of at most so many letters, by their values: shorter ones first, and then ordered as texts.
func rightByHand(t *testing.T, s impl.System, long int) map[int64][]string {
	t.Helper()
	byValue := map[int64][]string{}
	for long := range long + 1 {
		for _, text := range textsByHand(lettersByHand(s), long) {
			sum, right := numberByHand(s, text)
			isRead(t, s, text, sum, right)
			if right {
				byValue[sum] = append(byValue[sum], text)
			}
		}
	}
	return byValue
}

func isRead(t *testing.T, s impl.System, text string, sum int64, right bool) {
	t.Helper()
	parts, one := impl.PartsOf(s, text)
	value, two := impl.ValueOf(s, text)
	isRight, three := impl.IsRight(s, text)
	if !slices.Equal(parts, partsByHand(s, text)) || value != sum || isRight != right || one+two+three != impl.OK {
		t.Errorf("%q in %s: got the parts %d, in all %d, and right %v", text, systemTextByHand(s), parts, value, isRight)
	}
}

func TestP6AllTextsOfFewLetters(t *testing.T) {
	r := rand.New(rand.NewSource(21))
	for round := range rounds / 10 {
		signs := 1 + round%impl.MaxSigns
		long := []int{0, 16, 10, 7, 6, 5, 4, 4, 4}[signs]
		s := randomSystem(r, signs, []int16{12, 30, 100}[r.Intn(3)])
		byValue := rightByHand(t, s, long)
		greatest := int64(long) * int64(s.Signs[0].Value)
		for n := int64(0); n <= greatest; n++ {
			isShortestByHand(t, s, n, byValue[n], long)
			isCountedByHand(t, s, n, byValue[n], long)
		}
		for long := range int64(long + 1) {
			isGreatestByHand(t, s, byValue, long)
		}
	}
}

// isShortestByHand looks that the shortest number is the first one of those that were tried, or longer than these.
func isShortestByHand(t *testing.T, s impl.System, n int64, tried []string, long int) {
	t.Helper()
	name := fmt.Sprintf("ShortestFor %d in %s", n, systemTextByHand(s))
	text, code := impl.ShortestFor(s, n)
	if len(tried) > 0 {
		is(t, name, []any{text, code}, []any{tried[0], 0})
		return
	}
	if code == impl.ErrLimit {
		isCode(t, name, code, impl.ErrLimit, text)
		return
	}
	sum, right := numberByHand(s, text)
	is(t, name+": "+text, []any{sum, right, len(text) > long && len(text) <= impl.MaxLong, code}, []any{n, true, true, 0})
}

func isCountedByHand(t *testing.T, s impl.System, n int64, tried []string, long int) {
	t.Helper()
	if n > impl.MaxCounted {
		return
	}
	for _, long := range []int{long - 1, long} {
		count := 0
		for _, text := range tried {
			if len(text) <= long {
				count++
			}
		}
		got, code := impl.CountRight(s, n, int64(long))
		is(t, fmt.Sprintf("CountRight %d with %d in %s", n, long, systemTextByHand(s)), []any{got, code}, []any{count, 0})
	}
}

func isGreatestByHand(t *testing.T, s impl.System, byValue map[int64][]string, long int64) {
	t.Helper()
	greatest, first := int64(-1), ""
	for value, texts := range byValue {
		at := slices.IndexFunc(texts, func(text string) bool { return int64(len(text)) == long })
		if at >= 0 && value > greatest {
			greatest, first = value, texts[at]
		}
	}
	n, text, code := impl.GreatestOf(s, long)
	is(t, fmt.Sprintf("GreatestOf %d in %s", long, systemTextByHand(s)), []any{n, text, code}, []any{greatest, first, 0})
}

// opened is what counts of a right number that has been read up to a letter:
// the value of its whole parts, and that of the last one; the letter behind
// them, if it can still become the first one of a minus pair.
type opened struct {
	sum, last int64
	letter    byte
}

// found is how many such texts there are, and the first one of them.
type found struct {
	count int64
	first string
}

// closed takes the letter that is still open for a part.
func (o opened) closed(s impl.System) (opened, bool) {
	if o.letter == 0 {
		return o, true
	}
	value := signByHand(s, o.letter)
	return opened{o.sum + value, value, 0}, value <= o.last
}

// with reads one more letter.
func (o opened) with(s impl.System, letter byte) (opened, bool) {
	if o.letter != 0 {
		if value := pairByHand(s, o.letter, letter); value > 0 {
			return opened{o.sum + value, value, 0}, value <= o.last
		}
	}
	o, right := o.closed(s)
	o.letter = letter
	return o, right
}

// readLetters goes from texts to all texts with one letter more.
func readLetters(s impl.System, texts map[opened]found, most int64) map[opened]found {
	longer := map[opened]found{}
	for o, here := range texts {
		for _, l := range lettersByHand(s) {
			next, right := o.with(s, l[0])
			if !right || next.sum > most {
				continue
			}
			there, isThere := longer[next]
			if text := here.first + l; !isThere || text < there.first {
				there.first = text
			}
			there.count += here.count
			longer[next] = there
		}
	}
	return longer
}

// read is what there is to tell of the right numbers with a value; counts are by how many letters they have at most.
type read struct {
	shortest string
	found    bool
	counts   [impl.MaxLong + 1]int64
}

// readAll is this for all values up to a greatest one.
func readAll(s impl.System, most int64) []read {
	all := make([]read, most+1)
	texts := map[opened]found{{last: math.MaxInt64}: {count: 1}}
	for long := 0; long <= impl.MaxLong; long++ {
		// Texts that end in other ways can have the same value.
		firsts := map[int64]string{}
		for o, here := range texts {
			whole, right := o.closed(s)
			if !right || whole.sum > most {
				continue
			}
			if first, isThere := firsts[whole.sum]; !isThere || here.first < first {
				firsts[whole.sum] = here.first
			}
			for l := long; l <= impl.MaxLong; l++ {
				all[whole.sum].counts[l] += here.count
			}
		}
		for n, first := range firsts {
			if !all[n].found {
				all[n].shortest, all[n].found = first, true
			}
		}
		texts = readLetters(s, texts, most)
	}
	return all
}

// isAllByHand looks at numbers from low to high, and at some others.
func isAllByHand(t *testing.T, r *rand.Rand, s impl.System, all []read, numbers []int64) {
	t.Helper()
	for _, n := range numbers {
		want, name := all[n], fmt.Sprintf(" %d in %s", n, systemTextByHand(s))
		text, code := impl.ShortestFor(s, n)
		if want.found {
			is(t, "ShortestFor"+name, []any{text, code}, []any{want.shortest, 0})
		} else {
			isCode(t, "ShortestFor"+name, code, impl.ErrLimit, text)
		}
		if n <= impl.MaxCounted {
			for _, long := range []int{r.Intn(impl.MaxLong + 1), impl.MaxLong - 1, impl.MaxLong} {
				count, code := impl.CountRight(s, n, int64(long))
				is(t, fmt.Sprint("CountRight with ", long, name), []any{count, code}, []any{want.counts[long], 0})
			}
		}
		isGreedyByHand(t, s, n)
	}
	for range 8 {
		low := r.Int63n(int64(len(all)))
		isLongestByHand(t, s, all, low, min(low+r.Int63n([]int64{1, 4, 40, 4000}[r.Intn(4)]), int64(len(all)-1)))
	}
	isLongestByHand(t, s, all, 0, int64(len(all)-1))
}

func isGreedyByHand(t *testing.T, s impl.System, n int64) {
	t.Helper()
	name := fmt.Sprintf("GreedyFor %d in %s", n, systemTextByHand(s))
	text, code := impl.GreedyFor(s, n)
	want := greedyByParts(s, n)
	if len(want) > impl.MaxLong {
		isCode(t, name, code, impl.ErrLimit, text)
		return
	}
	is(t, name, []any{text, code}, []any{want, 0})
}

func isLongestByHand(t *testing.T, s impl.System, all []read, low, high int64) {
	t.Helper()
	longest := int64(-1)
	for n := low; n <= high; n++ {
		if all[n].found && (longest < 0 || len(all[n].shortest) > len(all[longest].shortest)) {
			longest = n
		}
	}
	name := fmt.Sprintf("LongestNumber from %d to %d in %s", low, high, systemTextByHand(s))
	n, text, code := impl.LongestNumber(s, low, high)
	if longest < 0 {
		isCode(t, name, code, impl.ErrNotFound, n, text)
		return
	}
	is(t, name, []any{n, text, code}, []any{longest, all[longest].shortest, 0})
}

func numbersUpTo(most int64) []int64 {
	var numbers []int64
	for n := range most + 1 {
		numbers = append(numbers, n)
	}
	return numbers
}

func TestP6NumbersReadLetterByLetter(t *testing.T) {
	r := rand.New(rand.NewSource(22))
	for range rounds / 20 {
		const most = 90
		s := randomSystem(r, 1+r.Intn(impl.MaxSigns), []int16{10, 20, 40, 90}[r.Intn(4)])
		isAllByHand(t, r, s, readAll(s, most), numbersUpTo(most))
	}
	isAllByHand(t, r, systemOf(oldText), readAll(systemOf(oldText), 300), numbersUpTo(300))
}

func TestP6GreatNumbersReadLetterByLetter(t *testing.T) {
	r := rand.New(rand.NewSource(23))
	for range rounds / 40 {
		s := randomSystem(r, 2+r.Intn(3), []int16{700, 2000, impl.MaxValue}[r.Intn(3)])
		numbers := []int64{impl.MaxCounted, impl.MaxNumber - 1, impl.MaxNumber}
		for range 40 {
			numbers = append(numbers, r.Int63n(impl.MaxNumber+1), r.Int63n(impl.MaxCounted+1))
			text, _ := impl.ShortestFor(s, r.Int63n(impl.MaxNumber+1))
			value, _ := numberByHand(s, text)
			numbers = append(numbers, value)
		}
		isAllByHand(t, r, s, readAll(s, impl.MaxNumber), numbers)
	}
}

func TestP6NumbersThatAreFoundAreRight(t *testing.T) {
	r := rand.New(rand.NewSource(24))
	systems := []impl.System{impl.OldSystem(false), impl.OldSystem(true)}
	for range rounds / 10 {
		systems = append(systems, randomSystem(r, 1+r.Intn(impl.MaxSigns), []int16{20, 200, impl.MaxValue}[r.Intn(3)]))
	}
	for _, s := range systems {
		for range 20 {
			n := r.Int63n(impl.MaxNumber + 1)
			name := fmt.Sprintf(" %d in %s", n, systemTextByHand(s))
			text, code := impl.ShortestFor(s, n)
			if code == impl.OK {
				isFound(t, "ShortestFor"+name, s, text, n)
			}
			low := r.Int63n(n + 1)
			longest, number, code := impl.LongestNumber(s, low, n)
			if code == impl.OK {
				isFound(t, "LongestNumber"+name, s, number, longest)
				is(t, "LongestNumber is in its range"+name, low <= longest && longest <= n && len(number) >= len(text), true)
			}
			greedy, code := impl.GreedyFor(s, n)
			if code != impl.OK {
				continue
			}
			if sum, right := numberByHand(s, greedy); right && sum == n && (text == "" && n > 0 || len(text) > len(greedy)) {
				t.Errorf("ShortestFor%s: got %q, but %q is shorter", name, text, greedy)
			}
		}
	}
}

// isFound looks that a number is right, and has its value; the program is asked, too.
func isFound(t *testing.T, name string, s impl.System, text string, n int64) {
	t.Helper()
	sum, right := numberByHand(s, text)
	value, _ := impl.ValueOf(s, text)
	isRight, _ := impl.IsRight(s, text)
	is(t, name+": "+text, []any{sum, right, value, isRight, len(text) <= impl.MaxLong}, []any{n, true, n, true, true})
}

func TestP6WidthsOfNumbers(t *testing.T) {
	r := rand.New(rand.NewSource(25))
	for range rounds {
		f, s := someFace(r), randomSystem(r, 1+r.Intn(impl.MaxSigns), 100)
		n := r.Int63n(500)
		text, code := impl.ShortestFor(s, n)
		want := paintedWide(f, text)
		wide, wideCode := impl.WidthOfNumber(f, s, n)
		isCode(t, "WidthOfNumber", wideCode, code, wide)
		is(t, "WidthOfNumber", wide, want)
	}
}

// readingsByHand are all readings of a worn number.
func readingsByHand(s impl.System, worn string) []string {
	var texts []string
	gone := strings.Count(worn, "?")
	for _, letters := range textsByHand(lettersByHand(s), gone) {
		text := []byte(worn)
		for _, l := range []byte(letters) {
			text[slices.Index(text, '?')] = l
		}
		if _, right := numberByHand(s, string(text)); right {
			texts = append(texts, string(text))
		}
	}
	slices.Sort(texts)
	return texts
}

// randomWorn wears a number away that is right as often as not.
func randomWorn(r *rand.Rand, s impl.System, most int) string {
	letters := lettersByHand(s)
	text := ""
	for range r.Intn(impl.MaxLong + 1) {
		text += letters[r.Intn(len(letters))]
	}
	if number, code := impl.ShortestFor(s, r.Int63n(4*int64(s.Signs[0].Value))); code == impl.OK && r.Intn(3) > 0 {
		text = number
	}
	worn := []byte(text)
	for range r.Intn(most + 1) {
		if len(worn) > 0 {
			worn[r.Intn(len(worn))] = '?'
		}
	}
	return string(worn)
}

func TestP7ReadingsAreRightAndFitAndAreAll(t *testing.T) {
	r := rand.New(rand.NewSource(26))
	for range 2 * rounds {
		s := randomSystem(r, 1+r.Intn(impl.MaxSigns), []int16{10, 60, 1000}[r.Intn(3)])
		worn := randomWorn(r, s, impl.MaxWorn)
		isReadByHand(t, r, s, worn, readingsByHand(s, worn))
	}
}

func isReadByHand(t *testing.T, r *rand.Rand, s impl.System, worn string, want []string) {
	t.Helper()
	name := fmt.Sprintf(" of %q in %s", worn, systemTextByHand(s))
	readings, code := impl.Readings(s, worn)
	low, high := r.Int63n(100)-1, r.Int63n(2000)
	some, someCode := impl.ReadingsBetween(s, worn, low, high)
	values, valuesCode := impl.ValuesOf(s, worn)
	sure, sureCode := impl.SureLetters(s, worn)
	if len(want) > impl.MaxReadings {
		isCode(t, "Readings"+name, code, impl.ErrLimit, readings)
		isCode(t, "ReadingsBetween"+name, someCode, impl.ErrLimit, some)
		isCode(t, "ValuesOf"+name, valuesCode, impl.ErrLimit, values)
		isCode(t, "SureLetters"+name, sureCode, impl.ErrLimit, sure)
		return
	}
	isTexts(t, "Readings"+name, readings, code, want)
	var between []string
	byValue := map[int64]bool{}
	for _, text := range want {
		value, _ := numberByHand(s, text)
		byValue[value] = true
		if value >= low && value <= high {
			between = append(between, text)
		}
	}
	isTexts(t, fmt.Sprint("ReadingsBetween ", low, " and ", high, name), some, someCode, between)
	var all []int64
	for value := range byValue {
		all = append(all, value)
	}
	slices.Sort(all)
	is(t, "ValuesOf"+name, []any{values, valuesCode}, []any{all, 0})
	if len(want) == 0 {
		isCode(t, "SureLetters"+name, sureCode, impl.ErrNotFound, sure)
		return
	}
	is(t, "SureLetters"+name, []any{sure, sureCode}, []any{sureByHand(worn, want), 0})
}

// sureByHand looks for each place how many letters the readings have there.
func sureByHand(worn string, readings []string) string {
	sure := ""
	for i := range worn {
		letters := map[string]bool{}
		for _, text := range readings {
			letters[text[i:i+1]] = true
		}
		if len(letters) > 1 {
			sure += "?"
			continue
		}
		sure += readings[0][i : i+1]
	}
	return sure
}

func TestP7NumbersAreReadingsOfWhatIsWorn(t *testing.T) {
	r := rand.New(rand.NewSource(27))
	for range rounds {
		s := randomSystem(r, 1+r.Intn(impl.MaxSigns), 60)
		n := r.Int63n(200)
		text, code := impl.ShortestFor(s, n)
		if code != impl.OK {
			continue
		}
		worn := []byte(text)
		for range r.Intn(3) {
			if len(worn) > 0 {
				worn[r.Intn(len(worn))] = '?'
			}
		}
		readings, code := impl.ReadingsBetween(s, string(worn), n, n)
		if code != impl.OK || !slices.Contains(readings, text) {
			t.Errorf("ReadingsBetween of %q in %s: got %q and the code %d, without %q", worn, systemTextByHand(s), readings, code, text)
		}
	}
}

// systemTextByHand writes valid systems, and others as they would be if they were.
func systemTextByHand(s impl.System) string {
	var signs, minus []string
	for _, sign := range s.Signs {
		signs = append(signs, fmt.Sprintf("%c%d", sign.Letter, sign.Value))
	}
	for _, m := range s.Minus {
		minus = append(minus, fmt.Sprintf("%c%c", m[0], m[1]))
	}
	return strings.Join(signs, " ") + ";" + strings.Join(minus, " ")
}

var rightSystem = regexp.MustCompile(`^([A-Z][1-9][0-9]{0,3} ){0,7}[A-Z]1;([A-Z][A-Z]( [A-Z][A-Z]){0,7})?$`)

// readSystemByHand returns the valid system with a text, and whether there is one.
func readSystemByHand(text string) (impl.System, bool) {
	if !rightSystem.MatchString(text) {
		return impl.System{}, false
	}
	var s impl.System
	signs, minus, _ := strings.Cut(text, ";")
	before := 5001
	for _, sign := range strings.Fields(signs) {
		value, _ := strconv.Atoi(sign[1:])
		if value >= before || signByHand(s, sign[0]) > 0 {
			return impl.System{}, false
		}
		s.Signs = append(s.Signs, impl.Sign{Letter: sign[0], Value: int16(value)})
		before = value
	}
	last := ""
	for _, pair := range strings.Fields(minus) {
		lesser, greater := signByHand(s, pair[0]), signByHand(s, pair[1])
		if pair <= last || lesser == 0 || greater <= lesser {
			return impl.System{}, false
		}
		s.Minus = append(s.Minus, [2]uint8{pair[0], pair[1]})
		last = pair
	}
	return s, true
}

func TestP6SystemsAreReadFromTheirTexts(t *testing.T) {
	r := rand.New(rand.NewSource(28))
	const odd = "ABCIXZ@[a019-+?;; \n\x00\xff"
	for range 20 * rounds {
		s := randomSystem(r, 1+r.Intn(impl.MaxSigns), []int16{10, 100, impl.MaxValue}[r.Intn(3)])
		text := systemTextByHand(s)
		is(t, "ValidSystem "+text, impl.ValidSystem(s), true)
		is(t, "SystemText", impl.SystemText(s), text)
		read, code := impl.ReadSystem(text)
		is(t, "ReadSystem "+text, []any{read, code, impl.SameSystem(read, s)}, []any{s, 0, true})
		changed := changedText(r, text, odd)
		want, found := readSystemByHand(changed)
		read, code = impl.ReadSystem(changed)
		if !found {
			isCode(t, "ReadSystem "+changed, code, impl.ErrSyntax, read)
			continue
		}
		is(t, "ReadSystem "+changed, []any{read, code}, []any{want, 0})
	}
}
