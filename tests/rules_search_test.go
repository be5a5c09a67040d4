package tests

import (
	"fmt"
	"slices"
	"strconv"
	"testing"

	"loop.example/g00447/impl"
)

func termsArguments() [][]impl.Term {
	return slices.Concat(somePrograms(), faultyTerms(), [][]impl.Term{wholeTerms()})
}

// fewTerms are programs with each kind and some faults, for calls that are made with much else.
func fewTerms() [][]impl.Term {
	return [][]impl.Term{
		allTerm(), flagTerm(1), numTerm(impl.TermSince, 7), numTerm(impl.TermBefore, 7), numTerm(impl.TermLarger, 5), subjectTerm("ä"), bodyTerm("ell"), bodyTerm("x"), uidTerm(set(2, 0, 1, 1)),
		notOf(bodyTerm("a")), andOf(subjectTerm("a"), uidTerm(set(0, 0))), orOf(notOf(uidTerm(set(1, 5))), bodyTerm("one")), comb(5, true), comb(5, false), chain(12),
		nil, chain(13), make([]impl.Term, 12), flagTerm(3), subjectTerm(""), uidTerm(ranges(9)), slices.Repeat(allTerm(), 2), wholeTerms(),
	}
}

func termsTextArguments() []string {
	list := append(nameArguments(), noTerms()...)
	for _, by := range termsByHand {
		list = append(list, by.text)
	}
	return list
}

// searchedBoxes are mailboxes with and without a fault, with messages in which something can be found.
func searchedBoxes() []impl.Box {
	list := append(boxArguments(), fullBox(21), fullBox(1000), fullBox(20))
	for six := range slices.Chunk(lookedInto(), 6) {
		b := impl.Box{Name: "in", Validity: 1, Next: 7}
		for place, m := range six {
			m.Uid = int64(place) + 1
			b.Messages = append(b.Messages, m)
		}
		list = append(list, b)
	}
	return list
}

func termsAnswer(call string, r impl.TermsResult) answer {
	var rest []byte
	for _, term := range r.Terms {
		rest = fmt.Append(rest, term)
	}
	return answer{call, r.Code, string(rest)}
}

func searchAnswers() []answer {
	var list []answer
	for i, terms := range termsArguments() {
		at := " " + strconv.Itoa(i)
		list = append(list, answer{"TermsFault" + at, impl.TermsFault(terms), ""}, textAnswer("TermsText"+at, impl.TermsText(terms)))
		for k, other := range fewTerms() {
			list = append(list, boolAnswer("SameTerms"+at+" "+strconv.Itoa(k), impl.SameTerms(terms, other)))
		}
	}
	for i, text := range termsTextArguments() {
		list = append(list, termsAnswer("ParseTerms "+strconv.Itoa(i), impl.ParseTerms(text)))
	}
	for i, terms := range fewTerms() {
		at := " " + strconv.Itoa(i)
		for k, b := range searchedBoxes() {
			for _, cmp := range comparatorArguments() {
				list = append(list, intsAnswer(fmt.Sprint("SearchBox", at, " ", k, " ", cmp), impl.SearchBox(terms, b, cmp)))
			}
		}
		for k, m := range append(messageArgumentsOfBoxes(), lookedInto()...) {
			for _, n := range mostArguments() {
				list = append(list, boolAnswer(fmt.Sprint("DoesMatch", at, " ", k, " ", n), impl.DoesMatch(terms, m, n, 9) || impl.DoesMatch(terms, m, 2, n)))
			}
		}
	}
	return list
}

// roomyTerms are the same terms in new memory, where each list has something behind it that belongs to the caller.
func roomyTerms(terms []impl.Term) []impl.Term {
	var fresh []impl.Term
	for _, term := range terms {
		term.Codes, term.Ranges = roomyNumbers(term.Codes), roomySet(term.Ranges)
		fresh = append(fresh, term)
	}
	return append(fresh, impl.Term{Kind: impl.TermNot, Left: int64(len(terms)) - 1}, impl.Term{Kind: impl.TermAll})[:len(terms)]
}

// wholeTermsRoom tells all that terms have, with what is behind their lists.
func wholeTermsRoom(terms []impl.Term) string {
	text := fmt.Sprint(terms[:cap(terms)])
	for _, term := range terms[:cap(terms)] {
		text += fmt.Sprint(term.Codes[:cap(term.Codes)], term.Ranges[:cap(term.Ranges)])
	}
	return text
}

// roomyBox is the same mailbox in new memory, with room behind its lists.
func roomyBox(b impl.Box) impl.Box {
	return roomy(impl.Store{Boxes: []impl.Box{b}}).Boxes[0]
}

func wholeBoxRoom(b impl.Box) string {
	return wholeRoom(impl.Store{Boxes: []impl.Box{b}})
}

func TestTermsStayAsTheyWere(t *testing.T) {
	for i, terms := range termsArguments() {
		given, other := roomyTerms(terms), roomyTerms(terms)
		before := wholeTermsRoom(given)
		impl.TermsFault(given)
		impl.TermsText(given)
		impl.SameTerms(given, other)
		impl.SameTerms(other, given)
		impl.SameTerms(given, given)
		impl.DoesMatch(given, mail("Subject: a\n\nx"), 3, 9)
		impl.SearchBox(given, fullBox(21), 3)
		if wholeTermsRoom(given) != before || wholeTermsRoom(other) != before {
			t.Errorf("terms %d were changed", i)
		}
	}
}

func TestWhatIsLookedIntoStaysAsItWas(t *testing.T) {
	var programs [][]impl.Term
	var before []string
	for _, terms := range fewTerms() {
		given := roomyTerms(terms)
		programs, before = append(programs, given), append(before, wholeTermsRoom(given))
	}
	for k, b := range searchedBoxes() {
		into := roomyBox(b)
		was := wholeBoxRoom(into)
		for i, terms := range programs {
			for _, cmp := range []int64{0, 1, 3, 4} {
				impl.SearchBox(terms, into, cmp)
				for _, m := range into.Messages[:min(len(into.Messages), 9)] {
					impl.DoesMatch(terms, m, cmp, 9)
				}
			}
			if wholeTermsRoom(terms) != before[i] {
				t.Errorf("terms %d were changed", i)
			}
		}
		if wholeBoxRoom(into) != was {
			t.Errorf("mailbox %d was changed", k)
		}
	}
}

func TestAnswersOfSearchesHangOnWhatIsGivenNotOnItsRoom(t *testing.T) {
	for i, terms := range termsArguments() {
		given, what := roomyTerms(terms), fmt.Sprint("terms ", i)
		tight := slices.Clip(movedTerms(terms, 0))
		askCode(t, what, impl.TermsFault(given), impl.TermsFault(tight))
		askSame(t, textAnswer(what, impl.TermsText(given)), textAnswer(what, impl.TermsText(tight)))
		askBool(t, what, impl.SameTerms(given, tight), true)
		for k, b := range []impl.Box{fullBox(21), fullBox(22), fullBox(3), box("in", 1, 9, 1, 3, 8)} {
			what := fmt.Sprint(what, " in ", k)
			askSame(t, intsAnswer(what, impl.SearchBox(given, roomyBox(b), 3)), intsAnswer(what, impl.SearchBox(tight, b, 3)))
			for _, m := range roomyBox(b).Messages {
				cut := m
				cut.Data = slices.Clip(slices.Clone(m.Data))
				askBool(t, what, impl.DoesMatch(given, m, 2, 9), impl.DoesMatch(tight, cut, 2, 9))
			}
		}
	}
	// What is behind a text that is cut out of a longer one is not its own.
	text := "and not flag seen or subject \xc3\xa4b uid 1:*,7"
	for n := range len(text) + 1 {
		askSame(t, termsAnswer(text[:n], impl.ParseTerms(text[:n])), termsAnswer(text[:n], impl.ParseTerms(string([]byte(text[:n])))))
	}
}

func TestNothingAndAnEmptyListAreTheSameTerms(t *testing.T) {
	empty := []impl.Term{}
	askCode(t, "TermsFault", impl.TermsFault(empty), impl.TermsFault(nil))
	askSame(t, textAnswer("TermsText", impl.TermsText(empty)), textAnswer("TermsText", impl.TermsText(nil)))
	askBool(t, "SameTerms", impl.SameTerms(empty, nil), true)
	askBool(t, "DoesMatch", impl.DoesMatch(empty, mail(""), 1, 1), impl.DoesMatch(nil, mail(""), 1, 1))
	askSame(t, intsAnswer("SearchBox", impl.SearchBox(empty, fullBox(21), 1)), intsAnswer("SearchBox", impl.SearchBox(nil, fullBox(21), 1)))
	without, bare := box("in", 1, 1), box("in", 1, 1)
	without.Messages, bare.Messages = []impl.Message{}, nil
	askSame(t, intsAnswer("SearchBox", impl.SearchBox(allTerm(), without, 1)), intsAnswer("SearchBox", impl.SearchBox(allTerm(), bare, 1)))
	for _, terms := range somePrograms() {
		full := movedTerms(terms, 0)
		for at := range full {
			full[at].Codes, full[at].Ranges = append([]int64{}, full[at].Codes...), append([]impl.Range{}, full[at].Ranges...)
		}
		askCode(t, "TermsFault", impl.TermsFault(full), impl.OK)
		askSame(t, textAnswer("TermsText", impl.TermsText(full)), textAnswer("TermsText", impl.TermsText(terms)))
		askBool(t, "SameTerms", impl.SameTerms(full, terms), true)
	}
	for _, m := range []impl.Message{{Uid: 1, Data: []byte{}}, {Uid: 1}} {
		askMatch(t, notOf(bodyTerm("a")), m, 1, 1, true)
		askMatch(t, numTerm(impl.TermLarger, 0), m, 1, 1, false)
	}
}

func spansOfTerms(what string, terms []impl.Term) []span {
	list := []span{spanOf(what, terms)}
	for i, term := range terms {
		list = append(list, spanOf(fmt.Sprint(what, " Codes of ", i), term.Codes), spanOf(fmt.Sprint(what, " Ranges of ", i), term.Ranges))
	}
	return list
}

func TestListsInAnswersOfSearchesAreNewMemory(t *testing.T) {
	for _, terms := range somePrograms() {
		text := wantTermsText(terms)
		first, second := impl.ParseTerms(text), impl.ParseTerms(text)
		askApart(t, text, append(spansOfTerms("first", first.Terms), spansOfTerms("second", second.Terms)...))
	}
	text := "and or subject abc subject abc or body abc and uid 1:3,5 uid 1:3,5"
	askApart(t, text, spansOfTerms("twice the same", impl.ParseTerms(text).Terms))
	for _, terms := range somePrograms() {
		given, b := roomyTerms(terms), roomyBox(fullBox(21))
		first, second := impl.SearchBox(given, b, 2), impl.SearchBox(given, b, 2)
		askApart(t, fmt.Sprint(terms), append(spansOfTerms("given", given), spanOf("first", first.List), spanOf("second", second.List), spanOf("messages", b.Messages)))
	}
}

// wipeTerms clears all lists of terms, and the room behind them.
func wipeTerms(terms []impl.Term) {
	for _, term := range terms {
		clear(term.Codes[:cap(term.Codes)])
		clear(term.Ranges[:cap(term.Ranges)])
	}
	clear(terms[:cap(terms)])
}

func TestAnswersOfSearchesStayWhateverBecomesOfWhatWasGiven(t *testing.T) {
	for _, terms := range somePrograms() {
		given, b := roomyTerms(terms), roomyBox(fullBox(21))
		text, found := impl.TermsText(given), impl.SearchBox(given, b, 2)
		want := slices.Clone(found.List)
		wipeTerms(given)
		wipeStore(impl.Store{Boxes: []impl.Box{b}})
		askText(t, "TermsText", text, impl.OK, wantTermsText(terms))
		askPath(t, "SearchBox", found, impl.OK, want)
		// What is done to an answer is not seen in the next one.
		read := impl.ParseTerms(text.Text)
		wipeTerms(read.Terms)
		askTerms(t, text.Text, impl.ParseTerms(text.Text), impl.OK, terms)
		clear(found.List[:cap(found.List)])
		askPath(t, "SearchBox again", impl.SearchBox(terms, fullBox(21), 2), impl.OK, want)
	}
}
