package tests

import (
	"fmt"
	"math/rand"
	"reflect"
	"slices"
	"testing"

	"loop.example/g01398/impl"
)

// is compares what is printed, so that a nil list is the same as an empty one.
func is(t *testing.T, name string, got, want any) {
	t.Helper()
	if g, w := fmt.Sprintf("%+v", got), fmt.Sprintf("%+v", want); g != w {
		t.Errorf("%s: got %s, want %s", name, g, w)
	}
}

// isCode also looks that nothing comes with a code other than OK: results are all other results of the call.
func isCode(t *testing.T, name string, got, want int64, results ...any) {
	t.Helper()
	if got != want {
		t.Errorf("%s: got the code %d, want %d", name, got, want)
	}
	if got == impl.OK {
		return
	}
	for _, r := range results {
		if !isNothing(r) {
			t.Errorf("%s: got %+v with the code %d", name, r, got)
		}
	}
}

// isTexts compares lists of texts one by one; printed, two texts look like one with a blank.
func isTexts(t *testing.T, name string, got []string, code int64, want []string) {
	t.Helper()
	if code != impl.OK || !slices.Equal(got, want) {
		t.Errorf("%s: got %q and the code %d, want %q", name, got, code, want)
	}
}

func isNothing(result any) bool {
	v := reflect.ValueOf(result)
	return v.IsZero() || v.Kind() == reflect.Slice && v.Len() == 0
}

// plainFace is the face of the examples, with other pairs.
func plainFace(pairs ...impl.Pair) impl.Face {
	f := impl.Face{Space: 6, Gap: 2, Pairs: pairs}
	for i := range f.Wide {
		f.Wide[i] = 10
	}
	return f
}

func exampleFace() impl.Face { return plainFace(impl.Pair{A: 'A', B: 'V', By: -2}) }

// manyPairs are n valid pairs for the plain face, all of which begin with "B".
func manyPairs(n int) []impl.Pair {
	var pairs []impl.Pair
	for k := range n {
		pairs = append(pairs, impl.Pair{A: 'B', B: byte('A' + 2*k), By: 1})
	}
	return pairs
}

// unevenFace has letters that are all of different widths, and pairs.
func unevenFace() impl.Face {
	f := impl.Face{Space: 7, Gap: 3, Pairs: []impl.Pair{{A: 'A', B: 'B', By: 4}, {A: 'B', B: 'A', By: -3}, {A: 'B', B: 'B', By: -1}}}
	for i := range f.Wide {
		f.Wide[i] = int8(i + 1)
	}
	return f
}

// badFaces are not valid, each one for another reason.
func badFaces() map[string]impl.Face {
	bad := map[string]impl.Face{"zero": {}}
	change := func(name string, how func(f *impl.Face)) {
		f := exampleFace()
		how(&f)
		bad[name] = f
	}
	change("first letter too narrow", func(f *impl.Face) { f.Wide[0] = 0 })
	change("last letter too narrow", func(f *impl.Face) { f.Wide[25] = 0 })
	change("letter less than nothing", func(f *impl.Face) { f.Wide[12] = -128 })
	change("first letter too wide", func(f *impl.Face) { f.Wide[0] = 41 })
	change("last letter too wide", func(f *impl.Face) { f.Wide[25] = 127 })
	change("space too narrow", func(f *impl.Face) { f.Space = 0 })
	change("space too wide", func(f *impl.Face) { f.Space = 41 })
	change("gap too narrow", func(f *impl.Face) { f.Gap, f.Pairs = -1, nil })
	change("gap too wide", func(f *impl.Face) { f.Gap = 11 })
	change("gap and by less than 0", func(f *impl.Face) { f.Pairs[0].By = -3 })
	change("by of 0", func(f *impl.Face) { f.Pairs[0].By = 0 })
	change("by too great", func(f *impl.Face) { f.Pairs[0].By = 11 })
	change("by far too great", func(f *impl.Face) { f.Gap, f.Pairs[0].By = 10, 127 })
	change("by too small", func(f *impl.Face) { f.Gap, f.Pairs[0].By = 10, -11 })
	change("by far too small", func(f *impl.Face) { f.Gap, f.Pairs[0].By = 10, -128 })
	change("A before letters", func(f *impl.Face) { f.Pairs[0].A = '@' })
	change("A behind letters", func(f *impl.Face) { f.Pairs[0].A = '[' })
	change("A small", func(f *impl.Face) { f.Pairs[0].A = 'a' })
	change("B before letters", func(f *impl.Face) { f.Pairs[0].B = '@' })
	change("B behind letters", func(f *impl.Face) { f.Pairs[0].B = '[' })
	change("B is no letter at all", func(f *impl.Face) { f.Pairs[0].B = 0xC1 })
	change("one pair twice", func(f *impl.Face) { f.Pairs = append(f.Pairs, f.Pairs[0]) })
	change("a pair twice with different by", func(f *impl.Face) { f.Pairs = append(f.Pairs, impl.Pair{A: 'A', B: 'V', By: 1}) })
	change("falling A", func(f *impl.Face) { f.Pairs = []impl.Pair{{A: 'B', B: 'A', By: 1}, {A: 'A', B: 'B', By: 1}} })
	change("falling B", func(f *impl.Face) { f.Pairs = []impl.Pair{{A: 'A', B: 'B', By: 1}, {A: 'A', B: 'A', By: 1}} })
	change("last pair out of order", func(f *impl.Face) { f.Pairs = append(manyPairs(11), impl.Pair{A: 'A', B: 'A', By: 1}) })
	change("too many pairs", func(f *impl.Face) { f.Pairs = manyPairs(13) })
	return bad
}

// badTexts are not valid.
func badTexts() []string {
	long := ""
	for range impl.MaxText + 1 {
		long += "A"
	}
	return []string{
		" ", "  ", " A", "A ", "A  B", "A B  C", "a", "Az", "@", "[", "A@", "A[B", "1", "A-B", "A\n", "\tA", "A\tB", "A\x00",
		"\xc1", "\xff", "\xa0", "Ä", "A\u00a0B", "A\u3000B", long, long[:58] + "  ", long[:58] + " AA", "A;B",
	}
}

func randomFace(r *rand.Rand) impl.Face {
	f := impl.Face{Space: int8(1 + r.Intn(impl.MaxLetter)), Gap: int8(r.Intn(11))}
	for i := range f.Wide {
		f.Wide[i] = int8(1 + r.Intn(impl.MaxLetter))
	}
	count := r.Intn(impl.MaxPairs + 1)
	for _, k := range r.Perm(16)[:count] {
		by := int8(r.Intn(21) - 10)
		if by != 0 && f.Gap+by >= 0 {
			f.Pairs = append(f.Pairs, impl.Pair{A: byte('A' + k/4), B: byte('A' + k%4), By: by})
		}
	}
	slices.SortFunc(f.Pairs, func(p, q impl.Pair) int {
		return (int(p.A)*256 + int(p.B)) - (int(q.A)*256 + int(q.B))
	})
	return f
}

// randomText is valid; its first letters are frequent, so that pairs come in it.
func randomText(r *rand.Rand) string {
	text := ""
	for range r.Intn(impl.MaxText + 1) {
		switch r.Intn(6) {
		case 0:
			if text != "" && text[len(text)-1] != ' ' {
				text += " "
			}
		case 1:
			text += string(rune('A' + r.Intn(26)))
		default:
			text += string(rune('A' + r.Intn(4)))
		}
	}
	if text != "" && text[len(text)-1] == ' ' {
		return text[:len(text)-1]
	}
	return text
}

// changedText is a text of which one or two bytes are taken away, or into which odd ones are put.
func changedText(r *rand.Rand, text, odd string) string {
	changed := []byte(text)
	for range 1 + r.Intn(2) {
		at, b := r.Intn(len(changed)+1), odd[r.Intn(len(odd))]
		if at < len(changed) && r.Intn(2) == 0 {
			changed = slices.Delete(changed, at, at+1)
		} else {
			changed = slices.Insert(changed, at, b)
		}
	}
	return string(changed)
}
