package tests

import (
	"fmt"
	"math"
	"math/rand"
	"slices"
	"testing"

	"loop.example/g00447/impl"
)

// wantNumbers walks through each range from one end to the other, and tells what it met that is not above most.
func wantNumbers(list []impl.Range, most int64) []int64 {
	var met [1000]bool
	for _, r := range list {
		at, end := r.From, r.To
		if at == 0 {
			at = most
		}
		if end == 0 {
			end = most
		}
		met[at], met[end] = true, true
		for at != end {
			if at < end {
				at++
			} else {
				at--
			}
			met[at] = true
		}
	}
	var numbers []int64
	for n := int64(1); n <= most; n++ {
		if met[n] {
			numbers = append(numbers, n)
		}
	}
	return numbers
}

// numbersFrom are those from one to another one.
func numbersFrom(first, last int64) []int64 {
	var list []int64
	for n := first; n <= last; n++ {
		list = append(list, n)
	}
	return list
}

// askIn asks ExpandSet, and InSet of each number in bounds and around them.
func askIn(t *testing.T, list []impl.Range, most int64, want []int64) {
	t.Helper()
	what := fmt.Sprint(wantSetText(list), " with ", most)
	askPath(t, what, impl.ExpandSet(list, most), impl.OK, want)
	isIn := map[int64]bool{}
	for _, n := range want {
		isIn[n] = true
	}
	for n := int64(-1); n <= most+2; n++ {
		askBool(t, fmt.Sprint(n, " in ", what), impl.InSet(list, n, most), isIn[n])
	}
	for _, n := range []int64{998, 999, 1000, 1001} {
		askBool(t, fmt.Sprint(n, " in ", what), impl.InSet(list, n, most), isIn[n])
	}
	for _, n := range noRangeEnds {
		askBool(t, fmt.Sprint(n, " in ", what), impl.InSet(list, n, most), false)
	}
}

func TestNumbersOfSetsByHand(t *testing.T) {
	byHand := []struct {
		text string
		most int64
		want []int64
	}{
		{"2:*,1", 3, []int64{1, 2, 3}}, {"2:*,1", 1, []int64{1}}, {"2:*,1", 5, []int64{1, 2, 3, 4, 5}}, {"2:*,1", 0, nil},
		{"*", 4, []int64{4}}, {"*", 1, []int64{1}}, {"*", 999, []int64{999}}, {"*", 0, nil}, {"*,*", 4, []int64{4}}, {"*,1", 4, []int64{1, 4}}, {"*,1", 1, []int64{1}},
		// A star below the other end, at it and above it.
		{"7:*", 9, []int64{7, 8, 9}}, {"7:*", 7, []int64{7}}, {"7:*", 5, []int64{5}}, {"7:*", 1, []int64{1}}, {"*:7", 9, []int64{7, 8, 9}}, {"*:7", 7, []int64{7}}, {"*:7", 5, []int64{5}}, {"*:1", 3, []int64{1, 2, 3}}, {"1:*", 3, []int64{1, 2, 3}}, {"999:*", 3, []int64{3}}, {"*:999", 3, []int64{3}},
		// The other way round.
		{"5:2", 9, []int64{2, 3, 4, 5}}, {"5:2", 5, []int64{2, 3, 4, 5}}, {"5:2", 4, []int64{2, 3, 4}}, {"5:2", 2, []int64{2}}, {"5:2", 1, nil}, {"2:5", 4, []int64{2, 3, 4}}, {"2:1", 9, []int64{1, 2}}, {"999:1", 2, []int64{1, 2}},
		// Above most.
		{"4", 3, nil}, {"4:9", 3, nil}, {"9:4", 3, nil}, {"999", 998, nil}, {"999", 999, []int64{999}}, {"998:999", 998, []int64{998}}, {"4,2", 3, []int64{2}},
		// Ranges that meet, that lie in one another, and that do neither.
		{"1:3,4:6", 9, []int64{1, 2, 3, 4, 5, 6}}, {"4:6,1:3", 9, []int64{1, 2, 3, 4, 5, 6}}, {"2:4,4:6", 9, []int64{2, 3, 4, 5, 6}}, {"1:9,3:5", 9, numbersFrom(1, 9)}, {"3:5,9:1", 9, numbersFrom(1, 9)}, {"1:2,8:9", 9, []int64{1, 2, 8, 9}}, {"8:9,1:2", 9, []int64{1, 2, 8, 9}}, {"3,3", 9, []int64{3}}, {"9,7,5,3,1", 9, []int64{1, 3, 5, 7, 9}}, {"7:*,*:7", 8, []int64{7, 8}},
		{"1,3,5,7,9,11,13,15", 15, []int64{1, 3, 5, 7, 9, 11, 13, 15}}, {"1,3,5,7,9,11,13,15", 8, []int64{1, 3, 5, 7}},
		{"1:999", 999, numbersFrom(1, 999)}, {"999:1", 999, numbersFrom(1, 999)}, {"1:*", 999, numbersFrom(1, 999)}, {"*:1", 999, numbersFrom(1, 999)}, {"1:499,501:*", 999, slices.Concat(numbersFrom(1, 499), numbersFrom(501, 999))},
	}
	for _, by := range byHand {
		askIn(t, impl.ParseSet(by.text).Ranges, by.most, by.want)
	}
}

func TestWhatIsToldOfASetIsJustWhatIsInIt(t *testing.T) {
	for from := range int64(8) {
		for to := range int64(8) {
			for most := range int64(9) {
				askIn(t, set(from, to), most, wantNumbers(set(from, to), most))
			}
		}
	}
	for ends := range int64(5 * 5 * 5 * 5) {
		list := set(ends%5, ends/5%5, ends/25%5, ends/125)
		for most := range int64(6) {
			askIn(t, list, most, wantNumbers(list, most))
		}
	}
	for _, list := range someSets() {
		for _, most := range []int64{0, 1, 2, 7, 500, 998, 999} {
			askIn(t, list, most, wantNumbers(list, most))
		}
	}
	for seed := range int64(400) {
		draw := rand.New(rand.NewSource(seed))
		list, most := anySet(draw, []int64{6, 30, 999}[seed%3]), draw.Int63n([]int64{8, 40, 1000}[seed%3])
		askIn(t, list, most, wantNumbers(list, most))
	}
}

func TestNumbersRiseAndAreThoseInTheSet(t *testing.T) {
	for seed := range int64(60) {
		draw := rand.New(rand.NewSource(seed))
		list, most := anySet(draw, 999), draw.Int63n(1000)
		got := impl.ExpandSet(list, most).List
		var in []int64
		for n := int64(-2); n <= 1002; n++ {
			if impl.InSet(list, n, most) {
				in = append(in, n)
			}
		}
		askPath(t, wantSetText(list), impl.IntsResult{List: got}, impl.OK, in)
		for at, n := range got {
			if n < 1 || n > most || at > 0 && got[at-1] >= n {
				t.Errorf("%s with %d: %v", wantSetText(list), most, got)
			}
		}
	}
}

func TestExpandSetTellsCodes(t *testing.T) {
	for _, list := range someSets() {
		for _, most := range noRangeEnds {
			askPath(t, fmt.Sprint(list, " with ", most), impl.ExpandSet(list, most), impl.ErrRange, nil)
		}
	}
	for _, list := range faultySets() {
		for _, most := range append([]int64{0, 1, 7, 999}, noRangeEnds...) {
			askPath(t, fmt.Sprintf("%.80v with %d", list, most), impl.ExpandSet(list, most), wantRangesFault(list), nil)
		}
	}
	askPath(t, "nothing, with a wrong most", impl.ExpandSet(nil, -1), impl.ErrMany, nil)
	askPath(t, "9 ranges, with a wrong most", impl.ExpandSet(ranges(9), 1000), impl.ErrMany, nil)
	askPath(t, "a wrong range, with a wrong most", impl.ExpandSet(set(1000, 1), 1000), impl.ErrRange, nil)
	askPath(t, "no numbers", impl.ExpandSet(set(1, 0), 0), impl.OK, nil)
}

func TestNothingIsInWhatHasAFault(t *testing.T) {
	for _, list := range faultySets() {
		for _, n := range []int64{-1, 0, 1, 2, 999, 1000} {
			askBool(t, fmt.Sprintf("%d in %.80v", n, list), impl.InSet(list, n, 999), false)
		}
	}
	// The number would be in the other ranges.
	askBool(t, "8 ranges, the last one wrong", impl.InSet(append(ranges(7), set(1, 1000)...), 1, 9), false)
	askBool(t, "9 ranges", impl.InSet(ranges(9), 1, 9), false)
	askBool(t, "a range of all that an int64 has", impl.InSet(set(math.MinInt64, math.MaxInt64), 1, 9), false)
	for _, list := range someSets() {
		for _, n := range []int64{math.MinInt64, -1, 0, 1, 2, 998, 999, 1000, math.MaxInt64} {
			for _, most := range append([]int64{0}, noRangeEnds...) {
				askBool(t, fmt.Sprint(n, " in ", list, " with ", most), impl.InSet(list, n, most), false)
			}
		}
		for _, most := range []int64{1, 2, 7, 998, 999} {
			askBool(t, fmt.Sprint("0 in ", list), impl.InSet(list, 0, most), false)
			askBool(t, fmt.Sprint("one above most in ", list), impl.InSet(list, most+1, most), false)
		}
	}
}

// wantSetOf begins a range at each number whose one ahead is not there, and ends one where the next is not.
func wantSetOf(numbers []int64) impl.RangesResult {
	codes := []asked{{len(numbers) == 0 || len(numbers) > 60, impl.ErrMany}}
	for at, n := range numbers {
		codes = append(codes, asked{n < 1 || n > 999 || at > 0 && numbers[at-1] >= n, impl.ErrRange})
	}
	if code := firstCode(codes...); code != impl.OK {
		return impl.RangesResult{Code: code}
	}
	var begins, ends []int64
	for _, n := range numbers {
		if !slices.Contains(numbers, n-1) {
			begins = append(begins, n)
		}
		if !slices.Contains(numbers, n+1) {
			ends = append(ends, n)
		}
	}
	if len(begins) > 8 {
		return impl.RangesResult{Code: impl.ErrMany}
	}
	var list []impl.Range
	for at := range begins {
		list = append(list, impl.Range{From: begins[at], To: ends[at]})
	}
	return impl.RangesResult{Ranges: list}
}

// askSetOf asks also that the numbers are read back from their set, and from its text; no star is in it, so that most is not seen.
func askSetOf(t *testing.T, numbers []int64) int64 {
	t.Helper()
	what := fmt.Sprintf("%.120v", numbers)
	want, got := wantSetOf(numbers), impl.SetOf(numbers)
	askRanges(t, what, got, want.Code, want.Ranges)
	if got.Code != impl.OK {
		return got.Code
	}
	last := numbers[len(numbers)-1]
	askPath(t, what, impl.ExpandSet(got.Ranges, last), impl.OK, numbers)
	askPath(t, what+" with 999", impl.ExpandSet(got.Ranges, 999), impl.OK, numbers)
	read := impl.ParseSet(impl.SetText(got.Ranges).Text)
	askPath(t, what+", read back", impl.ExpandSet(read.Ranges, last), impl.OK, numbers)
	return impl.OK
}

func TestSetsOfNumbersByHand(t *testing.T) {
	byHand := []struct {
		numbers []int64
		text    string
	}{
		{[]int64{1}, "1"}, {[]int64{999}, "999"}, {[]int64{5}, "5"}, {[]int64{1, 2}, "1:2"}, {[]int64{998, 999}, "998:999"}, {[]int64{1, 999}, "1,999"}, {[]int64{1, 3}, "1,3"},
		{[]int64{1, 2, 3, 7}, "1:3,7"}, {[]int64{1, 3, 4, 5}, "1,3:5"}, {[]int64{1, 2, 4, 5}, "1:2,4:5"}, {[]int64{7, 8, 9, 20, 30, 31}, "7:9,20,30:31"}, {[]int64{9, 10, 11, 99, 100, 101}, "9:11,99:101"},
		{numbersFrom(1, 60), "1:60"}, {numbersFrom(940, 999), "940:999"}, {[]int64{1, 3, 5, 7, 9, 11, 13, 15}, "1,3,5,7,9,11,13,15"}, {[]int64{1, 2, 4, 5, 7, 8, 10, 11, 13, 14, 16, 17, 19, 20, 22, 23}, "1:2,4:5,7:8,10:11,13:14,16:17,19:20,22:23"},
	}
	for _, by := range byHand {
		got := impl.SetOf(by.numbers)
		askCode(t, by.text, got.Code, impl.OK)
		askText(t, by.text, impl.SetText(got.Ranges), impl.OK, by.text)
		askSetOf(t, by.numbers)
	}
	askRanges(t, "a range of one number", impl.SetOf([]int64{7}), impl.OK, set(7, 7))
}

func TestNumbersThatAreNoSet(t *testing.T) {
	odd := []int64{1, 3, 5, 7, 9, 11, 13, 15, 17}
	many := []struct {
		what    string
		numbers []int64
		code    int64
	}{
		{"nothing", nil, impl.ErrMany}, {"an empty list", []int64{}, impl.ErrMany},
		{"61 in a row", numbersFrom(1, 61), impl.ErrMany}, {"999 in a row", numbersFrom(1, 999), impl.ErrMany}, {"61 that are wrong", times(61, -1), impl.ErrMany}, {"61, the last one wrong", append(numbersFrom(1, 60), 1000), impl.ErrMany}, {"very many", times(1<<16, 1), impl.ErrMany},
		{"60, the last one wrong", append(numbersFrom(1, 59), 1000), impl.ErrRange}, {"60 alike", times(60, 1), impl.ErrRange}, {"60, two alike", append(numbersFrom(1, 59), 59), impl.ErrRange},
		{"0", []int64{0}, impl.ErrRange}, {"1000", []int64{1000}, impl.ErrRange}, {"0 and 1", []int64{0, 1}, impl.ErrRange}, {"999 and 1000", []int64{999, 1000}, impl.ErrRange}, {"two alike", []int64{3, 3}, impl.ErrRange}, {"ones that fall", []int64{4, 3}, impl.ErrRange}, {"1, 2 and 2", []int64{1, 2, 2}, impl.ErrRange}, {"1, 3 and 2", []int64{1, 3, 2}, impl.ErrRange}, {"2, 1 and 3", []int64{2, 1, 3}, impl.ErrRange},
		{"9 ranges", odd, impl.ErrMany}, {"8 ranges", odd[:8], impl.OK}, {"9 ranges, the last one long", append(slices.Clone(odd), 18, 19), impl.ErrMany}, {"9 ranges and a 0 ahead", append([]int64{0}, odd...), impl.ErrRange}, {"9 ranges, and one behind that is wrong", append(slices.Clone(odd), 1000), impl.ErrRange}, {"9 ranges, and one that falls", append(slices.Clone(odd), 4), impl.ErrRange},
	}
	for _, by := range many {
		askCode(t, by.what, impl.SetOf(by.numbers).Code, by.code)
		askSetOf(t, by.numbers)
	}
	for _, n := range noRangeEnds {
		for _, list := range [][]int64{{n}, {n, 1}, {1, n}, {n, 999}, {999, n}, {1, n, 999}, {n, n}, {n - 1, n}, {n, n + 1}} {
			askCode(t, fmt.Sprint(list), askSetOf(t, list), impl.ErrRange)
		}
	}
}

func TestNumbersAreReadBackFromTheirSet(t *testing.T) {
	for n := int64(-1); n <= 1001; n++ {
		askSetOf(t, []int64{n})
	}
	told := map[int64]int{}
	// Each bit tells if a number is there.
	for bits := range 1 << 12 {
		var low, high []int64
		for at := range int64(12) {
			if bits>>at&1 == 1 {
				low, high = append(low, at+1), append(high, at+988)
			}
		}
		told[askSetOf(t, low)]++
		told[askSetOf(t, high)]++
	}
	for seed := range int64(600) {
		draw := rand.New(rand.NewSource(seed))
		var numbers []int64
		for n := draw.Int63n(3) + 1; n <= 999 && len(numbers) < 62 && draw.Intn(40) > 0; n++ {
			numbers = append(numbers, n)
			if draw.Intn(8) == 0 {
				n += draw.Int63n(40)
			}
		}
		told[askSetOf(t, numbers)]++
		if len(numbers) > 1 {
			slices.Reverse(numbers)
			told[askSetOf(t, numbers)]++
		}
	}
	for _, code := range []int64{impl.OK, impl.ErrMany, impl.ErrRange} {
		if told[code] < 100 {
			t.Errorf("only %d lists have the code %d", told[code], code)
		}
	}
}

// fewest is the smallest number of ranges, of numbers up to most, that tell just these numbers: each number of ranges is tried.
func fewest(numbers []int64, most int64) int {
	var all []impl.Range
	for from := int64(1); from <= most; from++ {
		for to := from; to <= most; to++ {
			all = append(all, impl.Range{From: from, To: to})
		}
	}
	lists := [][]impl.Range{nil}
	for size := 1; ; size++ {
		var longer [][]impl.Range
		for _, list := range lists {
			for _, r := range all {
				longer = append(longer, append(slices.Clone(list), r))
			}
		}
		lists = longer
		if slices.ContainsFunc(lists, func(list []impl.Range) bool { return slices.Equal(wantNumbers(list, most), numbers) }) {
			return size
		}
	}
}

func TestASetOfNumbersHasTheFewestRanges(t *testing.T) {
	for bits := 1; bits < 1<<5; bits++ {
		var numbers []int64
		for at := range int64(5) {
			if bits>>at&1 == 1 {
				numbers = append(numbers, at+1)
			}
		}
		if got := impl.SetOf(numbers).Ranges; len(got) != fewest(numbers, 5) {
			t.Errorf("%v: got %v, which are not %d ranges", numbers, got, fewest(numbers, 5))
		}
	}
}
