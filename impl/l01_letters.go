package impl

import (
	"cmp"
	"iter"
	"slices"
	"strconv"
	"strings"
)

// Codes of errors.
const (
	OK          = 0
	ErrInvalid  = 1
	ErrRange    = 2
	ErrLimit    = 3
	ErrState    = 4
	ErrSyntax   = 5
	ErrNotFound = 6
	ErrBudget   = 7
	ErrProof    = 8
)

// Limits of faces and texts.
const (
	MaxLetter = 40
	MaxPairs  = 12
	MaxText   = 60
	MaxWide   = 4000
)

// Pair tells by how much the gap of two letters is wider.
type Pair struct {
	A  uint8
	B  uint8
	By int8
}

// Face tells how wide letters, spaces and gaps are.
type Face struct {
	Wide  [26]int8
	Space int8
	Gap   int8
	Pairs []Pair
}

// The greatest Gap, and the greatest size of By.
const (
	maxGap = 10
	maxBy  = 10
)

// letter is a byte of a text.
type letter byte

func (l letter) isCapital() bool { return 'A' <= l && l <= 'Z' }

func (l letter) isBlank() bool { return l == ' ' }

// index counts capitals from "A" on.
func (l letter) index() int { return int(l - 'A') }

// The kinds of letters, in the order of the tests of kindOf.
const (
	kindCapital = iota
	kindBlank
	kindOther
)

func kindOf(l letter) int {
	tests := [kindOther]func(letter) bool{letter.isCapital, letter.isBlank}
	for kind, is := range tests {
		if is(l) {
			return kind
		}
	}
	return kindOther
}

// CodeName returns the name of an error code.
func CodeName(code int64) string {
	names := [...]string{
		OK:          "ok",
		ErrInvalid:  "invalid",
		ErrRange:    "range",
		ErrLimit:    "limit",
		ErrState:    "state",
		ErrSyntax:   "syntax",
		ErrNotFound: "notfound",
		ErrBudget:   "budget",
		ErrProof:    "proof",
	}
	if !between(code, 0, int64(len(names))-1) {
		return ""
	}
	return names[code]
}

func between(n, low, high int64) bool { return low <= n && n <= high }

func validWide(wide int64) bool { return between(wide, 0, MaxWide) }

// ValidFace reports whether a face is valid.
func ValidFace(f Face) bool {
	for _, wide := range f.Wide {
		if !between(int64(wide), 1, MaxLetter) {
			return false
		}
	}
	return between(int64(f.Space), 1, MaxLetter) && between(int64(f.Gap), 0, maxGap) && validPairs(f)
}

func validPairs(f Face) bool {
	if len(f.Pairs) > MaxPairs {
		return false
	}
	for i, p := range f.Pairs {
		if !validPair(p, f.Gap) || i > 0 && comparePairs(f.Pairs[i-1], p) >= 0 {
			return false
		}
	}
	return true
}

func validPair(p Pair, gap int8) bool {
	by := int64(p.By)
	return hasLetters(p) && by != 0 && between(by, -maxBy, maxBy) && int64(gap)+by >= 0
}

func hasLetters(p Pair) bool { return letter(p.A).isCapital() && letter(p.B).isCapital() }

func comparePairs(p, q Pair) int {
	return cmp.Or(cmp.Compare(p.A, q.A), cmp.Compare(p.B, q.B))
}

// SameFace reports whether two faces are equal.
func SameFace(a, b Face) bool {
	return a.Wide == b.Wide && a.Space == b.Space && a.Gap == b.Gap && slices.Equal(a.Pairs, b.Pairs)
}

// ValidText reports whether a text is valid.
func ValidText(text string) bool {
	if len(text) > MaxText {
		return false
	}
	// A blank is wrong behind a blank and at both ends, so the ends count as blanks.
	before := kindBlank
	for _, b := range []byte(text) {
		kind := kindOf(letter(b))
		if kind == kindOther || kind == kindBlank && before == kindBlank {
			return false
		}
		before = kind
	}
	return text == "" || before != kindBlank
}

func isWord(word string) bool {
	return word != "" && !strings.Contains(word, " ") && ValidText(word)
}

// wordsIn goes through the words of a valid text.
func wordsIn(text string) iter.Seq[string] {
	return func(yield func(string) bool) {
		for rest := text; rest != ""; {
			word, behind, _ := strings.Cut(rest, " ")
			if !yield(word) {
				return
			}
			rest = behind
		}
	}
}

// WordsOf returns the words of a text.
func WordsOf(text string) ([]string, int64) {
	if !ValidText(text) {
		return nil, ErrInvalid
	}
	return slices.Collect(wordsIn(text)), OK
}

// JoinWords returns the text of some words.
func JoinWords(words []string) (string, int64) {
	long := len(words) - 1
	for _, word := range words {
		long += len(word)
		if long > MaxText || !isWord(word) {
			return "", ErrInvalid
		}
	}
	return strings.Join(words, " "), OK
}

// findPair returns where a pair is in its order, or would be, and whether there is one.
func findPair(pairs []Pair, a, b byte) (int, bool) {
	return slices.BinarySearchFunc(pairs, Pair{A: a, B: b}, comparePairs)
}

func byOf(f Face, a, b byte) int64 {
	at, found := findPair(f.Pairs, a, b)
	if !found {
		return 0
	}
	return int64(f.Pairs[at].By)
}

func gapOf(f Face, a, b byte) int64 { return int64(f.Gap) + byOf(f, a, b) }

func letterWide(f Face, b byte) int64 { return int64(f.Wide[letter(b).index()]) }

// PairBy returns by how much the gap of a pair is wider.
func PairBy(f Face, a, b byte) (int64, int64) {
	if !ValidFace(f) {
		return 0, ErrInvalid
	}
	if !hasLetters(Pair{A: a, B: b}) {
		return 0, ErrRange
	}
	return byOf(f, a, b), OK
}

// WithPair returns the face with a pair.
func WithPair(f Face, p Pair) (Face, int64) {
	if !ValidFace(f) {
		return Face{}, ErrInvalid
	}
	takenAway := p.By == 0 && hasLetters(p)
	if !takenAway && !validPair(p, f.Gap) {
		return Face{}, ErrState
	}
	f.Pairs = pairsWith(f.Pairs, p)
	if len(f.Pairs) > MaxPairs {
		return Face{}, ErrLimit
	}
	return f, OK
}

// pairsWith returns new pairs in which p has its By.
func pairsWith(pairs []Pair, p Pair) []Pair {
	at, found := findPair(pairs, p.A, p.B)
	ahead, behind := pairs[:at:at], pairs[at:len(pairs):len(pairs)]
	if found {
		behind = behind[1:]
	}
	if p.By == 0 {
		return slices.Concat(ahead, behind)
	}
	return slices.Concat(ahead, []Pair{p}, behind)
}

func wordWide(f Face, word string) int64 {
	wide := int64(0)
	for i := range len(word) {
		if i > 0 {
			wide += gapOf(f, word[i-1], word[i])
		}
		wide += letterWide(f, word[i])
	}
	return wide
}

func lineWide(f Face, text string) int64 {
	wide := int64(strings.Count(text, " ")) * int64(f.Space)
	for word := range wordsIn(text) {
		wide += wordWide(f, word)
	}
	return wide
}

// WordWide returns how wide a word is.
func WordWide(f Face, word string) (int64, int64) {
	if !ValidFace(f) || !isWord(word) {
		return 0, ErrInvalid
	}
	return wordWide(f, word), OK
}

// LineWide returns how wide a text is as a line.
func LineWide(f Face, text string) (int64, int64) {
	if !ValidFace(f) || !ValidText(text) {
		return 0, ErrInvalid
	}
	return lineWide(f, text), OK
}

func placesOf(f Face, text string) []int64 {
	var places []int64
	left := int64(0)
	for word := range wordsIn(text) {
		for i := range len(word) {
			if i > 0 {
				left += gapOf(f, word[i-1], word[i])
			}
			places = append(places, left)
			left += letterWide(f, word[i])
		}
		left += int64(f.Space)
	}
	return places
}

// lettersOf returns the letters of a text without its blanks.
func lettersOf(text string) string { return strings.ReplaceAll(text, " ", "") }

// PlacesOf returns where the letters of a text are.
func PlacesOf(f Face, text string) ([]int64, int64) {
	if !ValidFace(f) || !ValidText(text) {
		return nil, ErrInvalid
	}
	return placesOf(f, text), OK
}

// LetterAt returns the letter that covers a place.
func LetterAt(f Face, text string, place int64) (int64, int64) {
	if !ValidFace(f) || !ValidText(text) {
		return 0, ErrInvalid
	}
	if !between(place, 0, lineWide(f, text)-1) {
		return 0, ErrRange
	}
	letters := lettersOf(text)
	for i, left := range placesOf(f, text) {
		if between(place, left, left+letterWide(f, letters[i])-1) {
			return int64(i), OK
		}
	}
	return 0, ErrNotFound
}

// WidestWord returns the widest word.
func WidestWord(f Face, text string) (int64, int64, int64) {
	if !ValidFace(f) || !ValidText(text) {
		return 0, 0, ErrInvalid
	}
	if text == "" {
		return 0, 0, ErrNotFound
	}
	index, widest, widestAt := int64(0), int64(0), int64(0)
	for word := range wordsIn(text) {
		if wide := wordWide(f, word); wide > widest {
			widest, widestAt = wide, index
		}
		index++
	}
	return widestAt, widest, OK
}

// roomOf returns what is left of a width beside a line.
func roomOf(f Face, text string, wide int64) (int64, int64) {
	if !ValidFace(f) || !ValidText(text) {
		return 0, ErrInvalid
	}
	if !validWide(wide) {
		return 0, ErrRange
	}
	room := wide - lineWide(f, text)
	if room < 0 {
		return 0, ErrState
	}
	return room, OK
}

// CentreLine returns how much room is ahead of a centred line.
func CentreLine(f Face, text string, wide int64) (int64, int64) {
	room, code := roomOf(f, text, wide)
	return room / 2, code
}

// JustifyLine returns how wide the spaces of a justified line are.
func JustifyLine(f Face, text string, wide int64) ([]int64, int64) {
	room, code := roomOf(f, text, wide)
	if code != OK {
		return nil, code
	}
	count := int64(strings.Count(text, " "))
	if count == 0 {
		return nil, ErrState
	}
	spaces := make([]int64, count)
	for i := range spaces {
		spaces[i] = int64(f.Space) + room/count
		if int64(i) < room%count {
			spaces[i]++
		}
	}
	return spaces, OK
}

// LongestFit returns how many words fit in a width.
func LongestFit(f Face, text string, wide int64) (int64, int64) {
	if !ValidFace(f) || !ValidText(text) {
		return 0, ErrInvalid
	}
	if !validWide(wide) {
		return 0, ErrRange
	}
	fit, right := int64(0), int64(0)
	for word := range wordsIn(text) {
		right += wordWide(f, word)
		if right > wide {
			break
		}
		fit++
		right += int64(f.Space)
	}
	return fit, OK
}

// CountLetters returns how often each letter comes.
func CountLetters(text string) ([]int64, int64) {
	if !ValidText(text) {
		return nil, ErrInvalid
	}
	counts := make([]int64, len(Face{}.Wide))
	for _, b := range []byte(lettersOf(text)) {
		counts[letter(b).index()]++
	}
	return counts, OK
}

// LoosenFace returns the face with another gap.
func LoosenFace(f Face, by int64) (Face, int64) {
	if !ValidFace(f) {
		return Face{}, ErrInvalid
	}
	// No greater step joins two valid gaps, and the sum of a greater one could overflow.
	if !between(by, -maxGap, maxGap) {
		return Face{}, ErrState
	}
	f.Gap += int8(by)
	if !ValidFace(f) {
		return Face{}, ErrState
	}
	f.Pairs = slices.Clone(f.Pairs)
	return f, OK
}

// FaceText returns the text of a face.
func FaceText(f Face) string {
	if !ValidFace(f) {
		return ""
	}
	var wides, pairs []string
	for _, wide := range f.Wide {
		wides = append(wides, strconv.Itoa(int(wide)))
	}
	for _, p := range f.Pairs {
		pairs = append(pairs, pairText(p))
	}
	return strings.Join([]string{
		strings.Join(wides, " "),
		strconv.Itoa(int(f.Space)),
		strconv.Itoa(int(f.Gap)),
		strings.Join(pairs, " "),
	}, ";")
}

func pairText(p Pair) string {
	sign := "+"
	if p.By < 0 {
		sign = "" // Itoa writes "-" itself
	}
	return string([]byte{p.A, p.B}) + sign + strconv.Itoa(int(p.By))
}

// ReadFace returns the face with a text.
func ReadFace(text string) (Face, int64) {
	f, found := facesByText(likelyFace(text))[text]
	if !found {
		return Face{}, ErrSyntax
	}
	return f, OK
}

// facesByText leaves out faces that are not valid: they have no text.
func facesByText(faces ...Face) map[string]Face {
	byText := map[string]Face{}
	for _, f := range faces {
		if text := FaceText(f); text != "" {
			byText[text] = f
		}
	}
	return byText
}

// likelyFace returns the only face that can have a text. It does not look
// whether the text is written as it has to be (or the face is valid):
// comparing the text of the face with it tells this.
func likelyFace(text string) Face {
	var f Face
	parts := strings.SplitN(text, ";", 4)
	if len(parts) < 4 {
		return f
	}
	wides := strings.SplitN(parts[0], " ", len(f.Wide)+1)
	for i := range min(len(wides), len(f.Wide)) {
		f.Wide[i] = likelyNumber(wides[i])
	}
	f.Space, f.Gap = likelyNumber(parts[1]), likelyNumber(parts[2])
	if parts[3] != "" {
		for _, pair := range strings.SplitN(parts[3], " ", MaxPairs+1) {
			f.Pairs = append(f.Pairs, likelyPair(pair))
		}
	}
	return f
}

func likelyPair(text string) Pair {
	if len(text) < 2 {
		return Pair{}
	}
	return Pair{A: text[0], B: text[1], By: likelyNumber(text[2:])}
}

// likelyNumber returns 0 for what is no number.
func likelyNumber(text string) int8 {
	n, err := strconv.ParseInt(text, 10, 8)
	if err != nil {
		return 0
	}
	return int8(n)
}
