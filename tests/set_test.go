package tests

import (
	"fmt"
	"math"
	"math/rand"
	"regexp"
	"slices"
	"strconv"
	"strings"
	"testing"

	"loop.example/g00447/impl"
)

// set is a list of ranges, told by From and To of each one.
func set(ends ...int64) []impl.Range {
	var list []impl.Range
	for at := 0; at < len(ends); at += 2 {
		list = append(list, impl.Range{From: ends[at], To: ends[at+1]})
	}
	return list
}

// ranges are n ranges of one number each, of which no two meet.
func ranges(n int) []impl.Range {
	var list []impl.Range
	for at := range int64(n) {
		list = append(list, impl.Range{From: 2*at + 1, To: 2*at + 1})
	}
	return list
}

// rangeEnds are numbers that a range may have, and ones that it may not.
var rangeEnds = []int64{0, 1, 2, 3, 9, 10, 11, 99, 100, 101, 500, 998, 999}
var noRangeEnds = []int64{math.MinInt64, math.MinInt64 + 1, math.MinInt32, -999, -1, 1000, 1001, 9999, 1 << 16, 1 << 32, 1<<32 + 5, 1<<53 + 1, math.MaxInt64 - 1, math.MaxInt64}

// someSets have no fault.
func someSets() [][]impl.Range {
	return [][]impl.Range{
		set(0, 0), set(1, 1), set(999, 999), set(0, 1), set(1, 0), set(0, 999), set(999, 0), set(1, 999), set(999, 1), set(2, 5), set(5, 2), set(3, 3),
		set(2, 0, 1, 1, 7, 5), set(0, 0, 0, 0), set(1, 3, 4, 6), set(4, 6, 1, 3), set(1, 9, 3, 5), set(3, 5, 9, 1), set(2, 4, 4, 6), set(7, 0, 0, 7), set(1, 1, 1, 1), set(900, 999, 0, 0),
		ranges(2), ranges(7), ranges(8), slices.Repeat(set(0, 0), 8), slices.Repeat(set(999, 1), 8), slices.Repeat(set(998, 999), 8),
	}
}

// faultySets have too many ranges, none, or a number that is not one.
func faultySets() [][]impl.Range {
	list := [][]impl.Range{nil, {}, ranges(9), ranges(10), ranges(1 << 12), slices.Repeat(set(0, 0), 9), slices.Repeat(set(-1, 1000), 9), append(ranges(8), set(1000, 1)...), append(set(-1, 1), ranges(8)...)}
	for _, n := range noRangeEnds {
		list = append(list, set(n, 1), set(1, n), set(n, n), set(0, n), append(ranges(7), set(n, 1)...), append(set(1, n), ranges(7)...))
	}
	return list
}

func wantRangesFault(list []impl.Range) int64 {
	codes := []asked{{len(list) < 1 || len(list) > 8, impl.ErrMany}}
	for _, r := range list {
		for _, n := range []int64{r.From, r.To} {
			codes = append(codes, asked{n < 0 || n > 999, impl.ErrRange})
		}
	}
	return firstCode(codes...)
}

var zeroAlone = regexp.MustCompile(`\b0\b`)

func wantSetText(list []impl.Range) string {
	var words []string
	for _, r := range list {
		from, to := fmt.Sprint(r.From), fmt.Sprint(r.To)
		word := from
		if from != to {
			word = from + ":" + to
		}
		words = append(words, zeroAlone.ReplaceAllString(word, "*"))
	}
	return strings.Join(words, ",")
}

const endPattern = `(?:\*|[1-9][0-9]{0,2})`
const rangePattern = endPattern + `(?::` + endPattern + `)?`

var setPattern = regexp.MustCompile(`\A` + rangePattern + `(?:,` + rangePattern + `){0,7}\z`)

// wantSet reads by a pattern, which does not see that a number is told twice.
func wantSet(text string) (list []impl.Range, code int64) {
	if !setPattern.MatchString(text) {
		return nil, impl.ErrText
	}
	for word := range strings.SplitSeq(text, ",") {
		ends := strings.Split(strings.ReplaceAll(word, "*", "0"), ":")
		if len(ends) == 2 && ends[0] == ends[1] {
			return nil, impl.ErrText
		}
		from, _ := strconv.ParseInt(ends[0], 10, 64)
		to, _ := strconv.ParseInt(ends[len(ends)-1], 10, 64)
		list = append(list, impl.Range{From: from, To: to})
	}
	return list, impl.OK
}

func askRanges(t *testing.T, what string, got impl.RangesResult, code int64, list []impl.Range) {
	t.Helper()
	if got.Code != code || !slices.Equal(got.Ranges, list) {
		t.Errorf("%s: got code %d %v, want code %d %v", what, got.Code, got.Ranges, code, list)
	}
}

func TestRangesFault(t *testing.T) {
	for n := range 12 {
		want := int64(impl.ErrMany)
		if n >= 1 && n <= 8 {
			want = impl.OK
		}
		askCode(t, fmt.Sprint(n, " ranges"), impl.RangesFault(ranges(n)), want)
		askCode(t, fmt.Sprint(n, " stars"), impl.RangesFault(slices.Repeat(set(0, 0), n)), want)
	}
	askCode(t, "an empty list", impl.RangesFault([]impl.Range{}), impl.ErrMany)
	askCode(t, "many", impl.RangesFault(ranges(1<<16)), impl.ErrMany)
	for _, from := range slices.Concat(rangeEnds, noRangeEnds) {
		for _, to := range slices.Concat(rangeEnds, noRangeEnds) {
			want := int64(impl.ErrRange)
			if slices.Contains(rangeEnds, from) && slices.Contains(rangeEnds, to) {
				want = impl.OK
			}
			askCode(t, fmt.Sprint(from, " to ", to), impl.RangesFault(set(from, to)), want)
		}
	}
	for n := int64(-2); n <= 1002; n++ {
		askCode(t, fmt.Sprint(n), impl.RangesFault(set(n, 1)), wantRangesFault(set(n, 1)))
		askCode(t, fmt.Sprint("to ", n), impl.RangesFault(set(1, n)), wantRangesFault(set(1, n)))
	}
	for _, list := range slices.Concat(someSets(), faultySets()) {
		askCode(t, fmt.Sprintf("%.80v", list), impl.RangesFault(list), wantRangesFault(list))
	}
}

func TestFaultsAtEachPlaceOfASet(t *testing.T) {
	for size := 1; size <= 10; size++ {
		want := int64(impl.ErrRange)
		if size > 8 {
			want = impl.ErrMany
		}
		for place := range size {
			for _, n := range noRangeEnds {
				from, to := ranges(size), ranges(size)
				from[place].From, to[place].To = n, n
				what := fmt.Sprint(n, " at ", place, " of ", size)
				askCode(t, what, impl.RangesFault(from), want)
				askCode(t, "to "+what, impl.RangesFault(to), want)
			}
		}
	}
}

// setsByHand are written out, each with its text.
var setsByHand = []struct {
	text string
	list []impl.Range
}{
	{"*", set(0, 0)}, {"1", set(1, 1)}, {"9", set(9, 9)}, {"10", set(10, 10)}, {"999", set(999, 999)},
	{"*:1", set(0, 1)}, {"1:*", set(1, 0)}, {"*:999", set(0, 999)}, {"999:*", set(999, 0)},
	{"1:2", set(1, 2)}, {"2:1", set(2, 1)}, {"5:2", set(5, 2)}, {"2:5", set(2, 5)}, {"1:999", set(1, 999)}, {"999:1", set(999, 1)}, {"1:10", set(1, 10)}, {"10:1", set(10, 1)}, {"100:10", set(100, 10)},
	{"2:*,1,7:5", set(2, 0, 1, 1, 7, 5)}, {"1,1", set(1, 1, 1, 1)}, {"*,*", set(0, 0, 0, 0)}, {"3:4,4:3", set(3, 4, 4, 3)}, {"5,3,1", set(5, 5, 3, 3, 1, 1)}, {"*,1:*,*:1", set(0, 0, 1, 0, 0, 1)},
	{"1,2,3,4,5,6,7,8", set(1, 1, 2, 2, 3, 3, 4, 4, 5, 5, 6, 6, 7, 7, 8, 8)},
	{"998:999,998:999,998:999,998:999,998:999,998:999,998:999,998:999", slices.Repeat(set(998, 999), 8)},
}

func TestSetsByHand(t *testing.T) {
	for _, by := range setsByHand {
		askText(t, by.text, impl.SetText(by.list), impl.OK, by.text)
		askRanges(t, by.text, impl.ParseSet(by.text), impl.OK, by.list)
	}
}

func TestSetTextTellsTheFault(t *testing.T) {
	for _, list := range faultySets() {
		askText(t, fmt.Sprintf("%.80v", list), impl.SetText(list), wantRangesFault(list), "")
	}
	askText(t, "nothing", impl.SetText(nil), impl.ErrMany, "")
	askText(t, "9 ranges, one of them wrong", impl.SetText(append(ranges(8), set(1000, -1)...)), impl.ErrMany, "")
	askText(t, "8 ranges, the last one wrong", impl.SetText(append(ranges(7), set(1, 1000)...)), impl.ErrRange, "")
}

// askReadBackSet asks that a set without a fault has its text, and is read back from it.
func askReadBackSet(t *testing.T, list []impl.Range) {
	t.Helper()
	text := impl.SetText(list)
	askText(t, fmt.Sprint(list), text, impl.OK, wantSetText(list))
	askRanges(t, text.Text, impl.ParseSet(text.Text), impl.OK, list)
}

func TestSetsAreReadBackFromTheirTexts(t *testing.T) {
	for n := range int64(1000) {
		askReadBackSet(t, set(n, n))
		for _, end := range rangeEnds {
			askReadBackSet(t, set(n, end, end, n))
		}
	}
	for _, list := range someSets() {
		askReadBackSet(t, list)
	}
	draw := rand.New(rand.NewSource(11))
	for range 4000 {
		askReadBackSet(t, anySet(draw, 999))
	}
}

// anySet has 1 to 8 ranges, with numbers of 0 to most; the greatest and the lowest ones come often.
func anySet(draw *rand.Rand, most int64) []impl.Range {
	end := func() int64 {
		return []int64{0, 1, most, draw.Int63n(most + 1), draw.Int63n(most + 1), draw.Int63n(most + 1)}[draw.Intn(6)]
	}
	var list []impl.Range
	for range draw.Intn(8) + 1 {
		list = append(list, impl.Range{From: end(), To: end()})
	}
	return list
}

// noSets are texts that no set has.
func noSets() []string {
	list := []string{
		"", ",", ",,", ":", "::", ",1", "1,", "1,,2", "1,2,", ",1,2", ",*", "*,", "1,2,,3", ":1", "1:", ":*", "*:", "1:,2", "1,:2", "1:2:3", "1:2:", ":1:2", "1::2", "*:*:*", "1:*:2", "1:2,3:4:5",
		"0", "00", "0:1", "1:0", "0:0", "0:*", "*:0", "1,0", "0,1", "01", "001", "1:02", "02:1", "1,03", "0999", "010",
		"1000", "1001", "9999", "1:1000", "1000:1", "1,1000", "*:1000", "1000:*", "10000", "1:10000", "12345", "99999", "123456", "18446744073709551617", "9223372036854775808", "-9223372036854775808", "4294967297", strings.Repeat("9", 400),
		"+1", "-1", "1:+2", "+1:2", "1:-2", "-1:2", "-0", "+0", "+*", "-*", "1,+2",
		" ", " 1", "1 ", "1, 2", "1 ,2", "1 :2", "1: 2", "* ", " *", "1 2", "1\t2", "1\n", "\n1", "1,\n2", "1\x00", "\x001", "\x00",
		"1:1", "3:3", "*:*", "999:999", "1,3:3", "3:3,1", "2:5,*:*", "10:10",
		"1,2,3,4,5,6,7,8,9", "*,*,*,*,*,*,*,*,*", "1:2,1:2,1:2,1:2,1:2,1:2,1:2,1:2,1:2", "1,2,3,4,5,6,7,8,", ",1,2,3,4,5,6,7,8", "1,2,3,4,5,6,7,8,x", "1,2,3,4,5,6,7,", "1,2,3,4,5,6,7,8:8",
		"**", "1*", "*1", "*2:3", "1:*2", "1:2*", "*,**", "a", "1a", "a1", "1:a", "x:1", "1;2", "1.2", "1-2", "1..2", "1_0", "0x1", "0b1", "1e2", "1.0", "\xff", "1\xff", "٣", "１", "1，2",
		"none", "all", "$", "(1)", "[1:2]", "\"1\"",
	}
	return append(list, strings.Repeat("1", 1<<20), strings.Repeat(",", 1<<20), strings.Repeat(":", 1<<20), strings.Repeat("*", 1<<20), strings.Repeat("1,", 1<<16)+"1", strings.Repeat("0", 1<<16)+"1", "1"+strings.Repeat(" ", 1<<16))
}

func TestTextsThatNoSetHas(t *testing.T) {
	for _, text := range noSets() {
		askRanges(t, fmt.Sprintf("%.40q", text), impl.ParseSet(text), impl.ErrText, nil)
	}
}

// askAsSet holds a text against the pattern; what is read has to be told so again. It answers if the text is read.
func askAsSet(t *testing.T, text string) bool {
	t.Helper()
	list, code := wantSet(text)
	got := impl.ParseSet(text)
	askRanges(t, fmt.Sprintf("%q", text), got, code, list)
	if got.Code == impl.OK {
		askText(t, fmt.Sprintf("%q, told again", text), impl.SetText(got.Ranges), impl.OK, text)
		askCode(t, text, impl.RangesFault(got.Ranges), impl.OK)
	}
	return got.Code == impl.OK
}

func TestTextsThatAreReadAreToldSoAgain(t *testing.T) {
	read := 0
	count := func(text string) {
		if askAsSet(t, text) {
			read++
		}
	}
	eachText("09 *:,", 5, count)
	eachText("19*:,", 6, count)
	eachText("1*:,", 8, count)
	eachRow([]string{"12", "999", "1000", "*", ":", ",", "0", "-"}, 5, count)
	if read < 1000 {
		t.Errorf("only %d texts were sets", read)
	}
	for _, text := range noSets() {
		askAsSet(t, text)
	}
}

func TestTextsOfSetsWithAnotherLetter(t *testing.T) {
	draw := rand.New(rand.NewSource(12))
	read := 0
	for range 1500 {
		text := wantSetText(anySet(draw, 999))
		at := draw.Intn(len(text))
		letter := "0123456789*:, +-a\x00\n"[draw.Intn(19)]
		turned := text[:at] + string(letter) + text[at+1:]
		for _, other := range []string{turned, text[:at] + string(letter) + text[at:], text[:at] + text[at+1:], text[:at], text + string(letter)} {
			if askAsSet(t, other) {
				read++
			}
		}
	}
	if read < 1000 {
		t.Errorf("only %d texts were sets", read)
	}
}
