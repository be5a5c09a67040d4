package tests

import (
	"fmt"
	"slices"
	"strconv"
	"testing"

	"loop.example/g00447/impl"
)

func keyArguments() []int64 {
	return slices.Concat(noKeys, keys)
}

// fewBoxes are mailboxes with and without a fault, for calls that are made with much else.
func fewBoxes() []impl.Box {
	return []impl.Box{{}, box("in", 1, 1), box("in", 1, 1000, 999), box("in", 1, 7, 2, 1), fullBox(20), fullBox(21), fullBox(1000), boxDated(3, 0, 9999, 5, 0, 4), boxSized(400, 0, 7, 400, 0, 7), boxTitled("b", "A", "a", "Ä", "B", "ä"), boxWith("wrong", "Subject: a\n\n", "", "Subject:\n\n")}
}

func sortAnswers() []answer {
	var list []answer
	for i, terms := range fewTerms() {
		for k, b := range fewBoxes() {
			for n, key := range keyArguments() {
				cmp := comparatorArguments()[(i+k+n)%len(comparatorArguments())]
				list = append(list, intsAnswer(fmt.Sprint("SortBox ", i, " ", k, " ", cmp, " ", key), impl.SortBox(terms, b, cmp, key, n%2 == 0)))
			}
		}
	}
	for i, b := range searchedBoxes() {
		for _, key := range keyArguments() {
			list = append(list, intsAnswer(fmt.Sprint("SortBox ", i, " ", key), impl.SortBox(allTerm(), b, 2, key, true)))
		}
	}
	some := append(messageArgumentsOfBoxes()[:60], comparedMessages()...)
	for i, a := range some {
		for k, b := range some {
			for _, key := range keyArguments() {
				list = append(list, boolAnswer(fmt.Sprint("ComesAhead ", i, " ", k, " ", key), impl.ComesAhead(a, b, int64(k%5), key)))
			}
		}
	}
	for i, numbers := range append(numberListArguments(), slicedLists()...) {
		for _, from := range mostArguments() {
			for _, to := range mostArguments() {
				list = append(list, intsAnswer(fmt.Sprint("SliceList ", i, " ", from, " ", to), impl.SliceList(numbers, from, to)))
			}
		}
	}
	for i, word := range append(nameArguments(), "date", "size", "subject", "arrival", "Date", "uid") {
		list = append(list, intAnswer("KeyOf "+strconv.Itoa(i), impl.KeyOf(word)))
	}
	return list
}

func askSortingChangesNothing(t *testing.T, terms []impl.Term, b impl.Box) {
	t.Helper()
	given, into := roomyTerms(terms), roomyBox(b)
	before, was := wholeTermsRoom(given), wholeBoxRoom(into)
	for _, key := range keyArguments() {
		for _, cmp := range []int64{0, 1, 2, 3} {
			impl.SortBox(given, into, cmp, key, cmp == 2)
		}
	}
	if wholeBoxRoom(into) != was {
		t.Errorf("the mailbox %.400v was changed", b)
	}
	if wholeTermsRoom(given) != before {
		t.Errorf("the terms %v were changed", terms)
	}
}

func TestWhatIsSortedStaysAsItWas(t *testing.T) {
	for _, terms := range fewTerms() {
		for _, b := range fewBoxes() {
			askSortingChangesNothing(t, terms, b)
		}
	}
	for _, b := range searchedBoxes() {
		askSortingChangesNothing(t, allTerm(), b)
	}
}

func TestMessagesThatAreComparedStayAsTheyWere(t *testing.T) {
	for k, b := range append(fewBoxes(), searchedBoxes()...) {
		into := roomyBox(b)
		was := wholeBoxRoom(into)
		for _, one := range into.Messages[:min(len(into.Messages), 9)] {
			for _, other := range into.Messages[:min(len(into.Messages), 9)] {
				for _, key := range keyArguments() {
					for _, cmp := range []int64{0, 1, 2, 3} {
						impl.ComesAhead(one, other, cmp, key)
					}
				}
			}
		}
		if wholeBoxRoom(into) != was {
			t.Errorf("mailbox %d was changed", k)
		}
	}
}

func TestListsThatAreSlicedStayAsTheyWere(t *testing.T) {
	for i, list := range append(numberListArguments(), slicedLists()...) {
		given := roomyNumbers(list)
		before := slices.Clone(given[:cap(given)])
		for _, from := range mostArguments() {
			for _, to := range mostArguments() {
				// What is put behind an answer does not reach the list, either.
				_ = append(impl.SliceList(given, from, to).List, -77)
			}
		}
		if !slices.Equal(given[:cap(given)], before) {
			t.Errorf("list %d was changed", i)
		}
	}
}

func TestAnswersOfOrderHangOnWhatIsGivenNotOnItsRoom(t *testing.T) {
	for i, terms := range fewTerms() {
		for k, b := range fewBoxes() {
			for n, key := range keyArguments() {
				what := fmt.Sprint("terms ", i, " in ", k, ", key ", key)
				askSame(t, intsAnswer(what, impl.SortBox(roomyTerms(terms), roomyBox(b), 3, key, n%2 == 0)), intsAnswer(what, impl.SortBox(slices.Clip(movedTerms(terms, 0)), b, 3, key, n%2 == 0)))
			}
		}
	}
	for i, list := range append(numberListArguments(), slicedLists()...) {
		tight := slices.Clip(slices.Clone(list))
		for _, from := range mostArguments() {
			for _, to := range mostArguments() {
				what := fmt.Sprint("list ", i, " from ", from, " to ", to)
				askSame(t, intsAnswer(what, impl.SliceList(roomyNumbers(list), from, to)), intsAnswer(what, impl.SliceList(tight, from, to)))
			}
		}
	}
	list := comparedMessages()
	roomyList := roomyBox(impl.Box{Messages: list}).Messages
	for i, a := range list {
		for k, b := range list {
			for _, key := range keys {
				askBool(t, fmt.Sprint(i, " and ", k), impl.ComesAhead(roomyList[i], roomyList[k], 2, key), impl.ComesAhead(a, b, 2, key))
			}
		}
	}
	// What is behind a word that is cut out of a longer one is not its own.
	for _, text := range []string{"dates", "sizes", "subjects", "arrivals"} {
		for n := range len(text) + 1 {
			askSame(t, intAnswer(text[:n], impl.KeyOf(text[:n])), intAnswer(text[:n], impl.KeyOf(string([]byte(text[:n])))))
		}
	}
}

func TestNothingAndAnEmptyListAreSortedTheSame(t *testing.T) {
	for _, from := range mostArguments() {
		for _, to := range mostArguments() {
			askSame(t, intsAnswer("SliceList", impl.SliceList([]int64{}, from, to)), intsAnswer("SliceList", impl.SliceList(nil, from, to)))
		}
	}
	without, bare := box("in", 1, 1), box("in", 1, 1)
	without.Messages, bare.Messages = []impl.Message{}, nil
	for _, key := range keyArguments() {
		askSame(t, intsAnswer("SortBox", impl.SortBox([]impl.Term{}, without, 1, key, true)), intsAnswer("SortBox", impl.SortBox(nil, bare, 1, key, true)))
		askSame(t, intsAnswer("SortBox", impl.SortBox(allTerm(), without, 1, key, true)), intsAnswer("SortBox", impl.SortBox(allTerm(), bare, 1, key, true)))
		askBool(t, "ComesAhead", impl.ComesAhead(impl.Message{Uid: 1, Data: []byte{}}, mail("Subject: a\n\n"), 1, key), impl.ComesAhead(impl.Message{Uid: 1}, mail("Subject: a\n\n"), 1, key))
	}
	empty, missing := boxWith("a", "", ""), boxWith("a", "", "")
	empty.Messages[1].Data, missing.Messages[2].Data = nil, nil
	for _, key := range keys {
		askSame(t, intsAnswer("SortBox", impl.SortBox(allTerm(), empty, 1, key, true)), intsAnswer("SortBox", impl.SortBox(allTerm(), missing, 1, key, true)))
	}
}

func TestListsInAnswersOfOrderAreNewMemory(t *testing.T) {
	for i, terms := range somePrograms() {
		given, b := roomyTerms(terms), roomyBox(fullBox(21))
		for _, key := range keys {
			first, second := impl.SortBox(given, b, 2, key, true), impl.SortBox(given, b, 2, key, true)
			askApart(t, fmt.Sprint("terms ", i), append(spansOfTerms("given", given), spanOf("first", first.List), spanOf("second", second.List), spanOf("messages", b.Messages)))
		}
	}
	for i, list := range slicedLists() {
		given := roomyNumbers(list)
		for _, ends := range [][2]int64{{1, 1}, {1, 2}, {2, 1}, {1, 999}, {999, 1}, {2, 3}, {60, 61}, {999, 999}} {
			first, second := impl.SliceList(given, ends[0], ends[1]), impl.SliceList(given, ends[0], ends[1])
			askApart(t, fmt.Sprint("list ", i), []span{spanOf("given", given), spanOf("first", first.List), spanOf("second", second.List)})
		}
	}
}

func TestAnswersOfOrderStayWhateverBecomesOfWhatWasGiven(t *testing.T) {
	for _, terms := range somePrograms() {
		for _, key := range keys {
			given, b := roomyTerms(terms), roomyBox(fullBox(21))
			got := impl.SortBox(given, b, 2, key, true)
			want, _ := wantSorted(terms, fullBox(21), 2, key, true)
			wipeTerms(given)
			wipeStore(impl.Store{Boxes: []impl.Box{b}})
			askPath(t, "SortBox", got, impl.OK, want)
			// What is done to an answer is not seen in the next one.
			clear(got.List[:cap(got.List)])
			askPath(t, "SortBox again", impl.SortBox(terms, fullBox(21), 2, key, true), impl.OK, want)
		}
	}
	list := []int64{1, 2, 3, 7}
	slice, other := impl.SliceList(list, 2, 9), impl.SliceList(list, 2, 9)
	clear(other.List[:cap(other.List)])
	askPath(t, "what was given", impl.IntsResult{List: list}, impl.OK, []int64{1, 2, 3, 7})
	clear(list)
	askPath(t, "SliceList", slice, impl.OK, []int64{2, 3, 7})
}
