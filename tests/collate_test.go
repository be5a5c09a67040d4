package tests

import (
	"math"
	"slices"
	"strconv"
	"strings"
	"testing"

	"loop.example/g00447/impl"
)

var comparators = []int64{impl.CmpOctet, impl.CmpAscii, impl.CmpUnicode}

var noComparators = []int64{math.MinInt64, -1, 0, 4, 5, 1<<32 + 1, math.MaxInt64}

var comparatorNames = []string{"i;octet", "i;ascii-casemap", "i;unicode-casemap"}

// smallLetters are all that have a large one under some comparator; the library knows which one that is.
const smallLetters = "abcdefghijklmnopqrstuvwxyz" +
	"àáâãäåæçèéêëìíîïðñòóôõöøùúûüýþ" +
	"αβγδεζηθικλμνξοπρστυφχψω" +
	"абвгдежзийклмнопрстуфхцчшщъыьэюя" +
	"ѐёђѓєѕіїјљњћќѝўџ"

// largeOf is each small letter's large one, of those that a comparator knows.
func largeOf(cmp int64) map[int64]int64 {
	small := map[int64]string{impl.CmpOctet: "", impl.CmpAscii: smallLetters[:26], impl.CmpUnicode: smallLetters}[cmp]
	large := map[int64]int64{}
	capitals := []rune(strings.ToUpper(small))
	for at, r := range []rune(small) {
		large[int64(r)] = int64(capitals[at])
	}
	return large
}

func wantMapped(cmp int64, codes []int64) []int64 {
	large := largeOf(cmp)
	mapped := slices.Clone(codes)
	for at, c := range mapped {
		if capital, ok := large[c]; ok {
			mapped[at] = capital
		}
	}
	return mapped
}

func codesOf(text string) []int64 {
	var codes []int64
	for _, r := range text {
		codes = append(codes, int64(r))
	}
	return codes
}

// textsOf are all texts of up to most characters of an alphabet.
func textsOf(alphabet []int64, most int) [][]int64 {
	texts := [][]int64{nil}
	last := texts
	for range most {
		var longer [][]int64
		for _, text := range last {
			for _, c := range alphabet {
				longer = append(longer, append(slices.Clone(text), c))
			}
		}
		texts = append(texts, longer...)
		last = longer
	}
	return texts
}

func askBool(t *testing.T, what string, got, want bool) {
	t.Helper()
	if got != want {
		t.Errorf("%s: got %v, want %v", what, got, want)
	}
}

// askOrder asks both ways round, and of each text against itself.
func askOrder(t *testing.T, what string, cmp int64, a, b []int64, want int64) {
	t.Helper()
	askInt(t, what, impl.CompareCodes(cmp, a, b), impl.OK, want)
	askInt(t, what+", the other way round", impl.CompareCodes(cmp, b, a), impl.OK, -want)
	askInt(t, what+", the first one itself", impl.CompareCodes(cmp, a, a), impl.OK, 0)
	askInt(t, what+", the second one itself", impl.CompareCodes(cmp, b, b), impl.OK, 0)
}

func TestComparatorNames(t *testing.T) {
	for i, name := range comparatorNames {
		cmp := int64(i + 1)
		askInt(t, name, impl.ComparatorOf(name), impl.OK, cmp)
		askInt(t, "large "+name, impl.ComparatorOf(strings.ToUpper(name)), impl.ErrNone, 0)
		for at := range len(name) {
			for _, wrong := range []string{name[:at], name[at+1:], name[:at] + name[at+1:], name[:at] + " " + name[at:], name[:at] + "\x00" + name[at:]} {
				askInt(t, strconv.Quote(wrong), impl.ComparatorOf(wrong), impl.ErrNone, 0)
			}
			for one := range 256 {
				other := name[:at] + string([]byte{byte(one)}) + name[at+1:]
				if other != name {
					askInt(t, strconv.Quote(other), impl.ComparatorOf(other), impl.ErrNone, 0)
				}
			}
		}
		for _, wrong := range []string{name + " ", name + "\n", name + "\x00", "\t" + name, "\"" + name + "\"", name + ";", name + name, "I" + name[1:], name[2:]} {
			askInt(t, strconv.Quote(wrong), impl.ComparatorOf(wrong), impl.ErrNone, 0)
		}
	}
	for _, wrong := range []string{"", " ", "i;", ";", "i;ascii-numeric", "1", "2", "3", strings.Repeat("i", 1<<16)} {
		askInt(t, strconv.Quote(wrong), impl.ComparatorOf(wrong), impl.ErrNone, 0)
	}
}

func TestCharsetsAndComparatorsAreFoundByTheirOwnNames(t *testing.T) {
	for _, cs := range charsets {
		name := impl.CharsetName(cs).Text
		askInt(t, name, impl.CharsetOf(name), impl.OK, cs)
		askInt(t, name+" is no comparator", impl.ComparatorOf(name), impl.ErrNone, 0)
		askInt(t, "i;"+name+" is no comparator", impl.ComparatorOf("i;"+name), impl.ErrNone, 0)
	}
	for _, name := range comparatorNames {
		askInt(t, name+" is no charset", impl.CharsetOf(name), impl.ErrNone, 0)
	}
}

func TestEachCharacterUnderEachComparator(t *testing.T) {
	for _, cmp := range comparators {
		large := largeOf(cmp)
		for c := int64(-2); c <= 65540; c++ {
			what := comparatorNames[cmp-1] + " " + strconv.FormatInt(c, 10)
			if c < 0 || c > 65535 || isSurrogate(c) {
				askInt(t, what, impl.MapChar(cmp, c), impl.ErrRange, 0)
				askCodes(t, what, impl.MapCodes(cmp, []int64{c}), impl.ErrRange, nil)
				continue
			}
			want := c
			if capital, ok := large[c]; ok {
				want = capital
			}
			askInt(t, what, impl.MapChar(cmp, c), impl.OK, want)
			askInt(t, what+", again", impl.MapChar(cmp, want), impl.OK, want)
			askCodes(t, what, impl.MapCodes(cmp, []int64{c}), impl.OK, []int64{want})
			askOrder(t, what, cmp, []int64{c}, []int64{want}, 0)
		}
	}
}

func TestCharactersAtTheEdgesOfLetters(t *testing.T) {
	// What each counts as by i;ascii-casemap and by i;unicode-casemap; -1: it is no character.
	for _, c := range []struct{ c, ascii, unicode int64 }{
		{-1, -1, -1}, {0, 0, 0}, {64, 64, 64}, {65, 65, 65}, {90, 90, 90}, {91, 91, 91},
		{96, 96, 96}, {97, 65, 65}, {122, 90, 90}, {123, 123, 123},
		{223, 223, 223}, {224, 224, 192}, {246, 246, 214}, {247, 247, 247}, {248, 248, 216}, {254, 254, 222}, {255, 255, 255},
		{944, 944, 944}, {945, 945, 913}, {961, 961, 929}, {962, 962, 962}, {963, 963, 931}, {969, 969, 937}, {970, 970, 970},
		{1071, 1071, 1071}, {1072, 1072, 1040}, {1103, 1103, 1071}, {1104, 1104, 1024}, {1119, 1119, 1039}, {1120, 1120, 1120},
		{55295, 55295, 55295}, {55296, -1, -1}, {57343, -1, -1}, {57344, 57344, 57344}, {65535, 65535, 65535}, {65536, -1, -1},
	} {
		what := strconv.FormatInt(c.c, 10)
		for _, cmp := range noComparators {
			askInt(t, what, impl.MapChar(cmp, c.c), impl.ErrNone, 0)
		}
		for cmp, want := range map[int64]int64{impl.CmpOctet: c.c, impl.CmpAscii: c.ascii, impl.CmpUnicode: c.unicode} {
			if c.ascii < 0 {
				askInt(t, what, impl.MapChar(cmp, c.c), impl.ErrRange, 0)
				continue
			}
			askInt(t, what, impl.MapChar(cmp, c.c), impl.OK, want)
			askInt(t, what+", again", impl.MapChar(cmp, want), impl.OK, want)
		}
	}
}

func TestMapCharAsksItsCodesInOrder(t *testing.T) {
	for _, c := range noCharacters {
		for _, cmp := range noComparators {
			askInt(t, "neither", impl.MapChar(cmp, c), impl.ErrNone, 0)
		}
		for _, cmp := range comparators {
			askInt(t, "no character", impl.MapChar(cmp, c), impl.ErrRange, 0)
		}
	}
}

func TestMapCodes(t *testing.T) {
	for _, c := range []struct {
		cmp        int64
		text, want string
	}{
		{impl.CmpOctet, "aZ äαж", "aZ äαж"},
		{impl.CmpAscii, "aZ äαж", "AZ äαж"},
		{impl.CmpUnicode, "aZ äαж", "AZ ÄΑЖ"},
		{impl.CmpUnicode, "ß÷ÿςϊѠ", "ß÷ÿςϊѠ"},
		{impl.CmpUnicode, "ёЁџ", "ЁЁЏ"},
	} {
		askCodes(t, c.text, impl.MapCodes(c.cmp, codesOf(c.text)), impl.OK, codesOf(c.want))
		askCodes(t, c.want+", again", impl.MapCodes(c.cmp, codesOf(c.want)), impl.OK, codesOf(c.want))
	}
	for _, cmp := range comparators {
		askCodes(t, "nil", impl.MapCodes(cmp, nil), impl.OK, nil)
		askCodes(t, "an empty list", impl.MapCodes(cmp, []int64{}), impl.OK, nil)
		all := codesOf(smallLetters + strings.ToUpper(smallLetters))
		askCodes(t, "all letters", impl.MapCodes(cmp, all), impl.OK, wantMapped(cmp, all))
		askCodes(t, "MaxBytes", impl.MapCodes(cmp, times(impl.MaxBytes, 'a')), impl.OK, wantMapped(cmp, times(impl.MaxBytes, 'a')))
	}
}

func TestMapCodesAsksItsCodesInOrder(t *testing.T) {
	for _, cmp := range noComparators {
		for _, codes := range [][]int64{nil, {'a'}, {-1}, times(impl.MaxBytes+1, 'a'), times(impl.MaxBytes+1, -1)} {
			askCodes(t, "no comparator", impl.MapCodes(cmp, codes), impl.ErrNone, nil)
		}
	}
	for _, cmp := range comparators {
		askCodes(t, "too many", impl.MapCodes(cmp, times(impl.MaxBytes+1, 'a')), impl.ErrMany, nil)
		askCodes(t, "too many that are none", impl.MapCodes(cmp, times(impl.MaxBytes+1, -1)), impl.ErrMany, nil)
		askCodes(t, "the last one none", impl.MapCodes(cmp, append(times(impl.MaxBytes-1, 'a'), 65536)), impl.ErrRange, nil)
		for _, c := range noCharacters {
			askCodes(t, "none behind one", impl.MapCodes(cmp, []int64{'a', c}), impl.ErrRange, nil)
			askCodes(t, "none ahead of one", impl.MapCodes(cmp, []int64{c, 'a'}), impl.ErrRange, nil)
		}
	}
}

func TestCompareCodes(t *testing.T) {
	for _, c := range []struct {
		cmp  int64
		a, b string
		want int64
	}{
		{impl.CmpOctet, "a", "B", 1},
		{impl.CmpAscii, "a", "B", -1},
		{impl.CmpUnicode, "a", "B", -1},
		{impl.CmpOctet, "a", "A", 1},
		{impl.CmpAscii, "a", "A", 0},
		{impl.CmpAscii, "ä", "Ä", 1},
		{impl.CmpUnicode, "ä", "Ä", 0},
		{impl.CmpUnicode, "÷", "×", 1},
		{impl.CmpUnicode, "ς", "σ", 1},
		{impl.CmpUnicode, "ё", "Ё", 0},
		// A small letter counts as its large one, which stands ahead of `[` and `_`.
		{impl.CmpAscii, "a", "[", -1},
		{impl.CmpOctet, "a", "[", 1},
		{impl.CmpAscii, "z", "_", -1},
		{impl.CmpUnicode, "ж", "а", 1},
		// The first two that are not the same tell it, whatever stands behind them.
		{impl.CmpAscii, "abz", "ACa", -1},
		{impl.CmpAscii, "b", "Azzz", 1},
		{impl.CmpOctet, "ba", "ab", 1},
		// A text and a longer one that begins with it.
		{impl.CmpAscii, "a", "Ab", -1},
		{impl.CmpAscii, "abc", "ABCA", -1},
		{impl.CmpOctet, "a", "a\x00", -1},
		{impl.CmpOctet, "", "\x00", -1},
	} {
		askOrder(t, strconv.Quote(c.a)+" and "+strconv.Quote(c.b), c.cmp, codesOf(c.a), codesOf(c.b), c.want)
	}
	for _, cmp := range comparators {
		askOrder(t, "nothing on both sides", cmp, nil, []int64{}, 0)
		askOrder(t, "nothing on one side", cmp, nil, []int64{0}, -1)
		askOrder(t, "nothing on one side", cmp, []int64{}, times(impl.MaxBytes, 'a'), -1)
		askOrder(t, "the lowest and the highest", cmp, []int64{0}, []int64{65535}, -1)
		askOrder(t, "MaxBytes", cmp, times(impl.MaxBytes, 'a'), times(impl.MaxBytes, 'a'), 0)
		askOrder(t, "MaxBytes and one less", cmp, times(impl.MaxBytes-1, 'a'), times(impl.MaxBytes, 'a'), -1)
		askOrder(t, "MaxBytes, the last one another", cmp, append(times(impl.MaxBytes-1, 'a'), 'b'), times(impl.MaxBytes, 'a'), 1)
	}
}

func TestComparingIsAnOrder(t *testing.T) {
	texts := textsOf([]int64{'A', 'a', '_', 196, 228, 1046}, 2)
	for _, cmp := range comparators {
		for _, a := range texts {
			for _, b := range texts {
				want := int64(slices.Compare(wantMapped(cmp, a), wantMapped(cmp, b)))
				askOrder(t, numbersText(a)+"and "+numbersText(b), cmp, a, b, want)
				for _, c := range texts {
					first, second := impl.CompareCodes(cmp, a, b).Value, impl.CompareCodes(cmp, b, c).Value
					if third := impl.CompareCodes(cmp, a, c).Value; first == second && third != first || first == 0 && third != second || second == 0 && third != first {
						t.Fatalf("%d: %v, %v, %v: %d, %d, but %d", cmp, a, b, c, first, second, third)
					}
				}
			}
		}
	}
}

func TestCompareCodesAsksItsCodesInOrder(t *testing.T) {
	right, none, many, manyNone := []int64{'a'}, []int64{'a', 55296}, times(impl.MaxBytes+1, 'a'), times(impl.MaxBytes+1, -1)
	for _, cmp := range noComparators {
		for _, a := range [][]int64{nil, right, none, many, manyNone} {
			for _, b := range [][]int64{nil, right, none, many, manyNone} {
				askInt(t, "no comparator", impl.CompareCodes(cmp, a, b), impl.ErrNone, 0)
			}
		}
	}
	for _, cmp := range comparators {
		for _, c := range []struct {
			what string
			a, b []int64
			code int64
		}{
			{"a: none", none, right, impl.ErrRange},
			{"a: none, b: nothing", none, nil, impl.ErrRange},
			{"b: none", right, none, impl.ErrRange},
			{"b: none, a: nothing", nil, none, impl.ErrRange},
			{"a: too many", many, right, impl.ErrMany},
			{"b: too many", right, many, impl.ErrMany},
			{"a: none, b: too many", none, many, impl.ErrRange},
			{"a: none, b: too many that are none", none, manyNone, impl.ErrRange},
			{"a: too many, b: none", many, none, impl.ErrMany},
			{"a: too many that are none, b: none", manyNone, none, impl.ErrMany},
			{"both too many", many, many, impl.ErrMany},
			// The codes are asked ahead of the answer, also where the first characters would tell it.
			{"none behind what tells it", []int64{'b', -1}, right, impl.ErrRange},
			{"none behind what tells it", right, []int64{'b', 65536}, impl.ErrRange},
		} {
			askInt(t, c.what, impl.CompareCodes(cmp, c.a, c.b), c.code, 0)
		}
	}
}

func TestHasCodes(t *testing.T) {
	for _, c := range []struct {
		cmp        int64
		text, part string
		want       bool
	}{
		{impl.CmpOctet, "abcd", "ab", true},
		{impl.CmpOctet, "abcd", "bc", true},
		{impl.CmpOctet, "abcd", "cd", true},
		{impl.CmpOctet, "abcd", "d", true},
		{impl.CmpOctet, "abcd", "abcd", true},
		{impl.CmpOctet, "abcd", "abcde", false},
		{impl.CmpOctet, "abcd", "eabcd", false},
		{impl.CmpOctet, "abcd", "ac", false},
		{impl.CmpOctet, "abcd", "ba", false},
		{impl.CmpOctet, "abcd", "dab", false},
		{impl.CmpOctet, "abcd", "de", false},
		{impl.CmpOctet, "a", "A", false},
		{impl.CmpAscii, "a", "A", true},
		{impl.CmpAscii, "A", "a", true},
		{impl.CmpAscii, "xABy", "ab", true},
		{impl.CmpAscii, "ä", "Ä", false},
		{impl.CmpUnicode, "ä", "Ä", true},
		{impl.CmpUnicode, "xжä", "ЖÄ", true},
		{impl.CmpUnicode, "ς", "Σ", false},
		{impl.CmpUnicode, "÷", "×", false},
		// A piece that begins twice: the first beginning leads nowhere.
		{impl.CmpAscii, "aab", "AB", true},
		{impl.CmpAscii, "ababac", "ABAC", true},
		{impl.CmpAscii, "aaab", "AAB", true},
		{impl.CmpAscii, "abab", "ABAB", true},
		{impl.CmpAscii, "ababab", "ABAC", false},
		{impl.CmpAscii, "aba", "ABAB", false},
		// Nothing is in each text; in nothing there is nothing else.
		{impl.CmpOctet, "", "", true},
		{impl.CmpOctet, "a", "", true},
		{impl.CmpOctet, "", "a", false},
		{impl.CmpOctet, "", "\x00", false},
	} {
		askBool(t, strconv.Quote(c.text)+" has "+strconv.Quote(c.part), impl.HasCodes(c.cmp, codesOf(c.text), codesOf(c.part)), c.want)
	}
	for _, cmp := range comparators {
		full := times(impl.MaxBytes, 'a')
		askBool(t, "nothing in nothing", impl.HasCodes(cmp, []int64{}, nil), true)
		askBool(t, "nothing in MaxBytes", impl.HasCodes(cmp, full, []int64{}), true)
		askBool(t, "MaxBytes in itself", impl.HasCodes(cmp, full, full), true)
		askBool(t, "one at the end of MaxBytes", impl.HasCodes(cmp, append(full[1:len(full):len(full)], 'b'), []int64{'b'}), true)
		askBool(t, "MaxBytes in one less", impl.HasCodes(cmp, full[1:], full), false)
		askBool(t, "MaxBytes in nothing", impl.HasCodes(cmp, nil, full), false)
	}
}

func TestATextHasItsPieces(t *testing.T) {
	// Texts of the library stand beside: its answer is asked of what both count as.
	texts := textsOf([]int64{'A', 'a', 'b', 228}, 4)
	parts := textsOf([]int64{'A', 'a', 'b', 196}, 3)
	asString := func(codes []int64) string {
		var runes []rune
		for _, c := range codes {
			runes = append(runes, rune(c))
		}
		return string(runes)
	}
	for _, cmp := range comparators {
		mapped := make([]string, len(parts))
		for i, part := range parts {
			mapped[i] = asString(wantMapped(cmp, part))
		}
		for _, text := range texts {
			whole := asString(wantMapped(cmp, text))
			for i, part := range parts {
				if got := impl.HasCodes(cmp, text, part); got != strings.Contains(whole, mapped[i]) {
					t.Fatalf("%d: %v has %v: got %v", cmp, text, part, got)
				}
			}
			for from := range len(text) + 1 {
				for to := from; to <= len(text); to++ {
					askBool(t, "a piece of itself", impl.HasCodes(cmp, text, text[from:to]), true)
				}
			}
		}
	}
}

func TestWhatATextHasALongerOneHasAsWell(t *testing.T) {
	texts := textsOf([]int64{'A', 'a', 228}, 3)
	more := textsOf([]int64{'a', 196}, 1)
	for _, cmp := range comparators {
		for _, text := range texts {
			for _, part := range texts {
				if !impl.HasCodes(cmp, text, part) {
					continue
				}
				for _, ahead := range more {
					for _, behind := range more {
						if longer := slices.Concat(ahead, text, behind); !impl.HasCodes(cmp, longer, part) {
							t.Fatalf("%d: %v has %v, but %v has it not", cmp, text, part, longer)
						}
					}
				}
			}
		}
	}
}

func TestHasCodesOfWrongArguments(t *testing.T) {
	right := [][]int64{nil, {'a'}, times(impl.MaxBytes, 'a')}
	wrong := [][]int64{{-1}, {'a', 55296}, {65536, 'a'}, times(impl.MaxBytes+1, 'a'), times(impl.MaxBytes+1, -1)}
	for _, cmp := range noComparators {
		for _, text := range slices.Concat(right, wrong) {
			askBool(t, "no comparator, nothing", impl.HasCodes(cmp, text, nil), false)
			askBool(t, "no comparator, itself", impl.HasCodes(cmp, text, text), false)
		}
	}
	for _, cmp := range comparators {
		for _, bad := range wrong {
			askBool(t, "itself", impl.HasCodes(cmp, bad, bad), false)
			for _, good := range right {
				askBool(t, "a wrong text", impl.HasCodes(cmp, bad, good), false)
				askBool(t, "a wrong part", impl.HasCodes(cmp, good, bad), false)
			}
		}
	}
}
