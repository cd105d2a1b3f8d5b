package tests

import (
	"fmt"
	"maps"
	"math/rand"
	"regexp"
	"slices"
	"strconv"
	"strings"
	"testing"

	"loop.example/g01398/impl"
)

// This file holds chapter 1 against simple programs of another kind: lines that are painted dot by dot, and texts that are read by regular expressions.

const rounds = 400

func byByHand(f impl.Face, a, b byte) int64 {
	for _, p := range f.Pairs {
		if p.A == a && p.B == b {
			return int64(p.By)
		}
	}
	return 0
}

// painted has for each dot of a line the index of the letter that covers it, or -1.
func painted(f impl.Face, text string) []int64 {
	var dots []int64
	paint := func(count, index int64) {
		for range count {
			dots = append(dots, index)
		}
	}
	index := int64(0)
	for i := range len(text) {
		switch {
		case text[i] == ' ':
			paint(int64(f.Space), -1)
			continue
		case i > 0 && text[i-1] != ' ':
			paint(int64(f.Gap)+byByHand(f, text[i-1], text[i]), -1)
		}
		paint(int64(f.Wide[text[i]-'A']), index)
		index++
	}
	return dots
}

func placesByHand(dots []int64) []int64 {
	var places []int64
	for place, index := range dots {
		if index == int64(len(places)) {
			places = append(places, int64(place))
		}
	}
	return places
}

func validFaceByHand(f impl.Face) bool {
	in := func(n int8, low, high int) bool { return int(n) >= low && int(n) <= high }
	for _, wide := range f.Wide {
		if !in(wide, 1, 40) {
			return false
		}
	}
	before := ""
	for _, p := range f.Pairs {
		name := string([]byte{p.A, p.B})
		if p.A < 'A' || p.A > 'Z' || p.B < 'A' || p.B > 'Z' || name <= before {
			return false
		}
		if p.By == 0 || !in(p.By, -10, 10) || int(f.Gap)+int(p.By) < 0 {
			return false
		}
		before = name
	}
	return in(f.Space, 1, 40) && in(f.Gap, 0, 10) && len(f.Pairs) <= 12
}

var rightText = regexp.MustCompile(`^([A-Z]+( [A-Z]+)*)?$`)

func validTextByHand(text string) bool { return rightText.MatchString(text) && len(text) <= 60 }

func faceTextByHand(f impl.Face) string {
	wides := strings.Trim(fmt.Sprint(f.Wide), "[]")
	var pairs []string
	for _, p := range f.Pairs {
		pairs = append(pairs, fmt.Sprintf("%c%c%+d", p.A, p.B, p.By))
	}
	return fmt.Sprintf("%s;%d;%d;%s", wides, f.Space, f.Gap, strings.Join(pairs, " "))
}

var (
	rightFace = regexp.MustCompile(`^((?:0|[1-9][0-9]?)(?: (?:0|[1-9][0-9]?)){25});(0|[1-9][0-9]?);(0|[1-9][0-9]?);((?:[A-Z]{2}[+-][1-9][0-9]?(?: [A-Z]{2}[+-][1-9][0-9]?)*)?)$`)
	oneNumber = regexp.MustCompile(`[0-9]+`)
	onePair   = regexp.MustCompile(`([A-Z])([A-Z])([+-][0-9]+)`)
)

// readByHand returns the valid face with a text, and whether there is one.
func readByHand(text string) (impl.Face, bool) {
	m := rightFace.FindStringSubmatch(text)
	if m == nil {
		return impl.Face{}, false
	}
	number := func(s string) int8 {
		n, _ := strconv.Atoi(s)
		return int8(n)
	}
	f := impl.Face{Space: number(m[2]), Gap: number(m[3])}
	for i, s := range oneNumber.FindAllString(m[1], -1) {
		f.Wide[i] = number(s)
	}
	for _, p := range onePair.FindAllStringSubmatch(m[4], -1) {
		f.Pairs = append(f.Pairs, impl.Pair{A: p[1][0], B: p[2][0], By: number(p[3])})
	}
	return f, validFaceByHand(f)
}

func equalFaces(a, b impl.Face) bool {
	return a.Wide == b.Wide && a.Space == b.Space && a.Gap == b.Gap && slices.Equal(a.Pairs, b.Pairs)
}

func TestP3WidthsAndPlacesAreThoseOfThePaintedLine(t *testing.T) {
	r := rand.New(rand.NewSource(1))
	for range rounds {
		f, text := randomFace(r), randomText(r)
		name := faceTextByHand(f) + " " + text
		dots := painted(f, text)
		wide, code := impl.LineWide(f, text)
		is(t, "LineWide "+name, []any{wide, code}, []any{len(dots), 0})
		places, code := impl.PlacesOf(f, text)
		is(t, "PlacesOf "+name, []any{places, code}, []any{placesByHand(dots), 0})
		for place, want := range dots {
			got, code := impl.LetterAt(f, text, int64(place))
			if want < 0 {
				isCode(t, "LetterAt "+name, code, impl.ErrNotFound, got)
			} else {
				is(t, "LetterAt "+name, []any{got, code}, []any{want, 0})
			}
		}
		got, code := impl.LetterAt(f, text, int64(len(dots)))
		isCode(t, "LetterAt behind "+name, code, impl.ErrRange, got)
	}
}

func TestP3WordsAreAsWideAsThePaintedOnes(t *testing.T) {
	r := rand.New(rand.NewSource(2))
	for range rounds {
		f, text := randomFace(r), randomText(r)
		words := strings.Fields(text)
		widest, at := int64(0), 0
		for i, word := range words {
			want := int64(len(painted(f, word)))
			wide, code := impl.WordWide(f, word)
			is(t, "WordWide "+word, []any{wide, code}, []any{want, 0})
			if want > widest {
				widest, at = want, i
			}
		}
		index, wide, code := impl.WidestWord(f, text)
		if len(words) == 0 {
			isCode(t, "WidestWord", code, impl.ErrNotFound, index, wide)
		} else {
			is(t, "WidestWord "+text, []any{index, wide, code}, []any{at, widest, 0})
		}
	}
}

func TestP3LinesInAWidth(t *testing.T) {
	r := rand.New(rand.NewSource(3))
	for range rounds {
		f, text := randomFace(r), randomText(r)
		words := strings.Fields(text)
		line := int64(len(painted(f, text)))
		for _, wide := range []int64{0, line - 1, line, line + 1, line + 2, r.Int63n(line + 1), line + r.Int63n(400), impl.MaxWide} {
			if wide < 0 {
				continue
			}
			most := 0
			for k := range words {
				if int64(len(painted(f, strings.Join(words[:k+1], " ")))) <= wide {
					most = k + 1
				}
			}
			fit, code := impl.LongestFit(f, text, wide)
			is(t, "LongestFit "+text, []any{fit, code}, []any{most, 0})
			ahead, code := impl.CentreLine(f, text, wide)
			if wide < line {
				isCode(t, "CentreLine "+text, code, impl.ErrState, ahead)
			} else if behind := wide - line - ahead; code != impl.OK || behind-ahead != 0 && behind-ahead != 1 {
				t.Errorf("CentreLine %s in %d: got %d and %d", text, wide, ahead, code)
			}
			spaces, code := impl.JustifyLine(f, text, wide)
			if wide < line || len(words) < 2 {
				isCode(t, "JustifyLine "+text, code, impl.ErrState, spaces)
			} else if code != impl.OK || !justWide(f, words, spaces, wide) {
				t.Errorf("JustifyLine %s in %d: got %d and %d", text, wide, spaces, code)
			}
		}
	}
}

// justWide tells whether spaces make a line of a width, no two differ by more than 1, and the greater ones come first.
func justWide(f impl.Face, words []string, spaces []int64, wide int64) bool {
	for _, word := range words {
		wide -= int64(len(painted(f, word)))
	}
	for i, space := range spaces {
		wide -= space
		if space < int64(f.Space) || space > spaces[0] || space < spaces[0]-1 || i > 0 && space > spaces[i-1] {
			return false
		}
	}
	return wide == 0 && len(spaces) == len(words)-1
}

func TestP2PairsThatArePutAreToldAndNoOthersChange(t *testing.T) {
	r := rand.New(rand.NewSource(4))
	for range rounds {
		f := randomFace(r)
		p := impl.Pair{A: byte('A' + r.Intn(5)), B: byte('A' + r.Intn(5)), By: int8(r.Intn(23) - 11)}
		name := fmt.Sprint("WithPair ", faceTextByHand(f), p)
		want, code := withByHand(f, p)
		got, gotCode := impl.WithPair(f, p)
		isCode(t, name, gotCode, code, got)
		if !equalFaces(got, want) {
			t.Errorf("%s: got %v, want %v", name, got, want)
		}
		if code != impl.OK {
			continue
		}
		for a := byte('A'); a <= 'Z'; a++ {
			for b := byte('A'); b <= 'Z'; b++ {
				by, code := impl.PairBy(got, a, b)
				if code != impl.OK || by != byByHand(want, a, b) {
					t.Errorf("%s: %c%c has %d and %d", name, a, b, by, code)
				}
			}
		}
	}
}

func withByHand(f impl.Face, p impl.Pair) (impl.Face, int64) {
	by := map[string]int8{}
	for _, q := range f.Pairs {
		by[string([]byte{q.A, q.B})] = q.By
	}
	name := string([]byte{p.A, p.B})
	by[name] = p.By
	if p.By == 0 {
		delete(by, name)
	}
	f.Pairs = nil
	for _, name := range slices.Sorted(maps.Keys(by)) {
		f.Pairs = append(f.Pairs, impl.Pair{A: name[0], B: name[1], By: by[name]})
	}
	alone := f
	if alone.Pairs = nil; p.By != 0 {
		alone.Pairs = []impl.Pair{p}
	}
	switch {
	case !validFaceByHand(alone):
		return impl.Face{}, impl.ErrState
	case len(f.Pairs) > impl.MaxPairs:
		return impl.Face{}, impl.ErrLimit
	}
	return f, impl.OK
}

func TestP2FacesAreReadFromTheirTexts(t *testing.T) {
	r := rand.New(rand.NewSource(5))
	for range rounds {
		f := randomFace(r)
		text := impl.FaceText(f)
		is(t, "FaceText", text, faceTextByHand(f))
		read, code := impl.ReadFace(text)
		if code != impl.OK || !equalFaces(read, f) {
			t.Errorf("ReadFace %s: got %v and %d", text, read, code)
		}
	}
}

func TestP2OnlyTextsOfValidFacesAreRead(t *testing.T) {
	r := rand.New(rand.NewSource(6))
	const odd = "0123456789+- ;AZa\n\x00\xff"
	for range 60 * rounds {
		text := []byte(faceTextByHand(randomFace(r)))
		for range 1 + r.Intn(2) {
			at, b := r.Intn(len(text)), odd[r.Intn(len(odd))]
			switch r.Intn(3) {
			case 0:
				text[at] = b
			case 1:
				text = slices.Insert(text, at, b)
			case 2:
				text = slices.Delete(text, at, at+1)
			}
		}
		f, ok := readByHand(string(text))
		read, code := impl.ReadFace(string(text))
		if !ok {
			isCode(t, "ReadFace "+string(text), code, impl.ErrSyntax, read)
		} else if code != impl.OK || !equalFaces(read, f) {
			t.Errorf("ReadFace %s: got %v and %d, want %v", text, read, code, f)
		}
	}
}

func TestP2FacesThatAreValidAndThoseThatAreNot(t *testing.T) {
	r := rand.New(rand.NewSource(7))
	for range 10 * rounds {
		f := randomFace(r)
		switch n := int8(r.Intn(56) - 13); r.Intn(4) {
		case 0:
			f.Wide[r.Intn(26)] = n
		case 1:
			f.Space = n
		case 2:
			f.Gap = n
		default:
			f.Pairs = append(f.Pairs, impl.Pair{A: byte('@' + r.Intn(28)), B: byte('@' + r.Intn(28)), By: n})
		}
		if got := impl.ValidFace(f); got != validFaceByHand(f) {
			t.Errorf("ValidFace %v: got %v", f, got)
		}
	}
}

func TestP3TextsThatAreValidAndThoseThatAreNot(t *testing.T) {
	const odd = "  AZ@[az\n\xc1"
	r := rand.New(rand.NewSource(8))
	for range 10 * rounds {
		text := []byte(randomText(r))
		for range r.Intn(3) {
			text = slices.Insert(text, r.Intn(len(text)+1), odd[r.Intn(len(odd))])
		}
		valid := validTextByHand(string(text))
		if got := impl.ValidText(string(text)); got != valid {
			t.Errorf("ValidText %q: got %v", text, got)
		}
		words, code := impl.WordsOf(string(text))
		if !valid {
			isCode(t, "WordsOf", code, impl.ErrInvalid, words)
			continue
		}
		if want := strings.Fields(string(text)); code != impl.OK || !slices.Equal(words, want) {
			t.Errorf("WordsOf %q: got %q and %d", text, words, code)
		}
		joined, code := impl.JoinWords(words)
		if code != impl.OK || joined != string(text) {
			t.Errorf("JoinWords %q: got %q and %d", words, joined, code)
		}
	}
}
