package tests

import (
	"fmt"
	"math"
	"slices"
	"strconv"
	"testing"

	"loop.example/g00447/impl"
)

func setArguments() [][]impl.Range {
	return slices.Concat(someSets(), faultySets())
}

func setTextArguments() []string {
	list := append(nameArguments(), noSets()...)
	for _, by := range setsByHand {
		list = append(list, by.text)
	}
	return list
}

// mostArguments are numbers of messages, and of most of them, around each bound.
func mostArguments() []int64 {
	return append(numberArguments(), 2, 3, 7, 998, 999, 1000, 1001)
}

func numberListArguments() [][]int64 {
	list := [][]int64{nil, {}, {0}, {1}, {999}, {1000}, {1, 2, 3, 7}, {1, 1}, {2, 1}, {3, 5, 4}, {1, 3, 5, 7, 9, 11, 13, 15}, {1, 3, 5, 7, 9, 11, 13, 15, 17}, numberArguments(), {math.MaxInt64, math.MinInt64}, {math.MinInt64, math.MaxInt64}}
	for _, n := range []int{59, 60, 61, 999, 1 << 16} {
		list = append(list, numbersFrom(1, int64(n)), numbersFrom(1000-int64(n), 999), times(n, 1), times(n, -1))
	}
	return list
}

func rangesAnswer(call string, r impl.RangesResult) answer {
	var rest []byte
	for _, one := range r.Ranges {
		rest = fmt.Append(rest, one)
	}
	return answer{call, r.Code, string(rest)}
}

func setAnswers() []answer {
	var list []answer
	for i, given := range setArguments() {
		at := " " + strconv.Itoa(i)
		list = append(list, answer{"RangesFault" + at, impl.RangesFault(given), ""}, textAnswer("SetText"+at, impl.SetText(given)))
		for _, most := range mostArguments() {
			with := at + " " + strconv.FormatInt(most, 10)
			list = append(list, intsAnswer("ExpandSet"+with, impl.ExpandSet(given, most)))
			for _, n := range mostArguments() {
				list = append(list, boolAnswer("InSet"+with+" "+strconv.FormatInt(n, 10), impl.InSet(given, n, most)))
			}
		}
	}
	for i, text := range setTextArguments() {
		list = append(list, rangesAnswer("ParseSet "+strconv.Itoa(i), impl.ParseSet(text)))
	}
	for i, numbers := range numberListArguments() {
		list = append(list, rangesAnswer("SetOf "+strconv.Itoa(i), impl.SetOf(numbers)))
	}
	return list
}

// roomySet is the same set in new memory, with ranges of the caller's behind it.
func roomySet(list []impl.Range) []impl.Range {
	return slices.Concat(list, set(1, 999, 0, 0, -5, 1000))[:len(list)]
}

// roomyNumbers are the same numbers in new memory, with numbers of the caller's behind them that would go on with them.
func roomyNumbers(list []int64) []int64 {
	next := int64(1)
	if len(list) > 0 && list[len(list)-1] < math.MaxInt64-1 {
		next = list[len(list)-1] + 1
	}
	return slices.Concat(list, []int64{next, next + 1, 7})[:len(list)]
}

func TestSetsStayAsTheyWere(t *testing.T) {
	for i, list := range setArguments() {
		given := roomySet(list)
		before := slices.Clone(given[:cap(given)])
		impl.RangesFault(given)
		impl.SetText(given)
		for _, most := range mostArguments() {
			impl.ExpandSet(given, most)
			for _, n := range mostArguments() {
				impl.InSet(given, n, most)
			}
		}
		if !slices.Equal(given[:cap(given)], before) {
			t.Errorf("set %d was changed", i)
		}
	}
	for i, list := range numberListArguments() {
		given := roomyNumbers(list)
		before := slices.Clone(given[:cap(given)])
		impl.SetOf(given)
		if !slices.Equal(given[:cap(given)], before) {
			t.Errorf("numbers %d were changed", i)
		}
	}
}

func TestAnswersOfSetsHangOnWhatIsGivenNotOnItsRoom(t *testing.T) {
	for i, list := range setArguments() {
		given, what := roomySet(list), fmt.Sprint("set ", i)
		tight := slices.Clip(slices.Clone(list))
		askCode(t, what, impl.RangesFault(given), impl.RangesFault(tight))
		askSame(t, textAnswer(what, impl.SetText(given)), textAnswer(what, impl.SetText(tight)))
		for _, most := range mostArguments() {
			askSame(t, intsAnswer(what, impl.ExpandSet(given, most)), intsAnswer(what, impl.ExpandSet(tight, most)))
			for _, n := range mostArguments() {
				askBool(t, what, impl.InSet(given, n, most), impl.InSet(tight, n, most))
			}
		}
	}
	for i, list := range numberListArguments() {
		what := fmt.Sprint("numbers ", i)
		askSame(t, rangesAnswer(what, impl.SetOf(roomyNumbers(list))), rangesAnswer(what, impl.SetOf(slices.Clip(slices.Clone(list)))))
	}
	// What is behind a text that is cut out of a longer one is not its own.
	text := "12:34,*,5:*"
	for n := range len(text) + 1 {
		askSame(t, rangesAnswer(text[:n], impl.ParseSet(text[:n])), rangesAnswer(text[:n], impl.ParseSet(string([]byte(text[:n])))))
	}
}

func TestNothingAndAnEmptyListAreTheSameSet(t *testing.T) {
	askCode(t, "RangesFault", impl.RangesFault([]impl.Range{}), impl.RangesFault(nil))
	askSame(t, textAnswer("SetText", impl.SetText([]impl.Range{})), textAnswer("SetText", impl.SetText(nil)))
	askSame(t, intsAnswer("ExpandSet", impl.ExpandSet([]impl.Range{}, 3)), intsAnswer("ExpandSet", impl.ExpandSet(nil, 3)))
	askSame(t, rangesAnswer("SetOf", impl.SetOf([]int64{})), rangesAnswer("SetOf", impl.SetOf(nil)))
	askBool(t, "InSet", impl.InSet([]impl.Range{}, 1, 3), impl.InSet(nil, 1, 3))
}

func TestListsInAnswersOfSetsAreNewMemory(t *testing.T) {
	for i, list := range someSets() {
		given := roomySet(list)
		for _, most := range []int64{0, 1, 7, 999} {
			first, second := impl.ExpandSet(given, most), impl.ExpandSet(given, most)
			askApart(t, fmt.Sprint("ExpandSet of ", i), []span{spanOf("given", given), spanOf("first", first.List), spanOf("second", second.List)})
		}
		text := wantSetText(list)
		first, second := impl.ParseSet(text), impl.ParseSet(text)
		askApart(t, text, []span{spanOf("first", first.Ranges), spanOf("second", second.Ranges)})
	}
	for i, list := range numberListArguments() {
		given := roomyNumbers(list)
		first, second := impl.SetOf(given), impl.SetOf(given)
		askApart(t, fmt.Sprint("SetOf ", i), []span{spanOf("given", given), spanOf("first", first.Ranges), spanOf("second", second.Ranges)})
	}
}

func TestAnswersOfSetsStayWhateverBecomesOfWhatWasGiven(t *testing.T) {
	given := set(2, 0, 1, 1, 7, 5)
	text, numbers := impl.SetText(given), impl.ExpandSet(given, 6)
	clear(given)
	askText(t, "SetText", text, impl.OK, "2:*,1,7:5")
	askPath(t, "ExpandSet", numbers, impl.OK, numbersFrom(1, 6))
	list := []int64{1, 2, 3, 7}
	told, other := impl.SetOf(list), impl.SetOf(list)
	clear(list)
	clear(other.Ranges[:cap(other.Ranges)])
	askRanges(t, "SetOf", told, impl.OK, set(1, 3, 7, 7))
	// What is done to an answer is not seen in the next one.
	read := impl.ParseSet("2:*,1")
	clear(read.Ranges[:cap(read.Ranges)])
	askRanges(t, "ParseSet", impl.ParseSet("2:*,1"), impl.OK, set(2, 0, 1, 1))
	expanded := impl.ExpandSet(set(1, 3), 3)
	clear(expanded.List[:cap(expanded.List)])
	askPath(t, "ExpandSet", impl.ExpandSet(set(1, 3), 3), impl.OK, []int64{1, 2, 3})
}
