package tests

import (
	"fmt"
	"math/rand"
	"slices"
	"testing"

	"loop.example/g00447/impl"
)

// wantFound asks each message alone.
func wantFound(terms []impl.Term, b impl.Box, cmp int64) (list []int64, code int64) {
	code = wantTermsFault(terms)
	if code == impl.OK {
		code = firstCode(asked{wantBoxFault(b) != impl.OK, wantBoxFault(b)}, asked{isOut(cmp, 1, 3), impl.ErrNone})
	}
	if code != impl.OK {
		return nil, code
	}
	for place, m := range b.Messages {
		if wantMatch(terms, m, cmp, b.Next-1) {
			list = append(list, int64(place)+1)
		}
	}
	return list, impl.OK
}

func askFound(t *testing.T, terms []impl.Term, b impl.Box, cmp int64) impl.IntsResult {
	t.Helper()
	got := impl.SearchBox(terms, b, cmp)
	list, code := wantFound(terms, b, cmp)
	if got.Code != code || !slices.Equal(got.List, list) {
		t.Errorf("%.200v by %d in %.400v: got code %d %v, want code %d %v", terms, cmp, b, got.Code, got.List, code, list)
	}
	return got
}

// fullBox has as many messages as a mailbox can have.
func fullBox(next int64) impl.Box {
	return impl.Box{Name: "in", Validity: 1, Next: next, Messages: []impl.Message{
		{Uid: 1, Flags: 1, Date: 10, Data: []byte("Subject: Hello\n\nfirst")},
		{Uid: 2, Flags: 0, Date: 0},
		{Uid: 5, Flags: 9, Date: 10, Data: []byte("Subject: =?utf-8?Q?=C3=A4?=\n\n" + "HELLO")},
		{Uid: 7, Flags: 2, Date: 9999, Data: []byte("Subject: hello\n" + textOf("utf-8", "base64", "w4Q="))},
		{Uid: 8, Flags: 15, Date: 11, Data: []byte("wrong\n\nhello")},
		{Uid: 20, Flags: 4, Date: 5, Data: []byte(multi("b", "Content-Type: image/x\n\nhello", "\nhello"))},
	}}
}

func TestWhatIsFoundByHand(t *testing.T) {
	for _, by := range []struct {
		text string
		cmp  int64
		want []int64
	}{
		{"all", 1, []int64{1, 2, 3, 4, 5, 6}}, {"not all", 1, nil}, {"flag seen", 1, []int64{1, 3, 5}}, {"flag deleted", 1, []int64{3, 5}}, {"not flag seen", 1, []int64{2, 4, 6}}, {"and flag seen not flag deleted", 1, []int64{1}},
		{"since 10", 1, []int64{1, 3, 4, 5}}, {"before 10", 1, []int64{2, 6}}, {"since 11", 1, []int64{4, 5}}, {"since 9999", 1, []int64{4}}, {"before 0", 1, nil}, {"since 0", 1, []int64{1, 2, 3, 4, 5, 6}}, {"larger 0", 1, []int64{1, 3, 4, 5, 6}}, {"larger 400", 1, nil}, {"and since 5 before 11", 1, []int64{1, 3, 6}},
		{"subject hello", 1, []int64{4}}, {"subject hello", 2, []int64{1, 4}}, {"subject hello", 3, []int64{1, 4}}, {"subject ä", 1, []int64{3}}, {"subject Ä", 2, nil}, {"subject Ä", 3, []int64{3}}, {"not subject hello", 2, []int64{2, 3, 5, 6}},
		{"body hello", 1, []int64{6}}, {"body hello", 2, []int64{3, 6}}, {"body ä", 2, nil}, {"body ä", 3, []int64{4}}, {"or subject hello body hello", 2, []int64{1, 3, 4, 6}}, {"body first", 1, []int64{1}},
		{"uid 1", 1, []int64{1}}, {"uid 20", 1, []int64{6}}, {"uid 5:8", 1, []int64{3, 4, 5}}, {"uid 3", 1, nil}, {"uid 20,1,7", 1, []int64{1, 4, 6}}, {"uid 1:*", 1, []int64{1, 2, 3, 4, 5, 6}}, {"uid 6:*", 1, []int64{4, 5, 6}}, {"not uid 2:7", 1, []int64{1, 5, 6}},
	} {
		for _, next := range []int64{21, 22, 1000} {
			b := fullBox(next)
			askPath(t, by.text, impl.SearchBox(parse(t, by.text), b, by.cmp), impl.OK, by.want)
			askFound(t, parse(t, by.text), b, by.cmp)
		}
	}
}

func TestTheGreatestUidIsNextLessOne(t *testing.T) {
	for _, by := range []struct {
		text string
		next int64
		want []int64
	}{
		{"uid *", 21, []int64{6}}, {"uid *", 22, nil}, {"uid *", 1000, nil}, {"not uid *", 21, []int64{1, 2, 3, 4, 5}}, {"not uid *", 22, []int64{1, 2, 3, 4, 5, 6}}, {"uid *,1", 21, []int64{1, 6}}, {"uid *,1", 22, []int64{1}}, {"uid *:8", 21, []int64{5, 6}}, {"uid *:8", 22, []int64{5, 6}},
		{"uid 500:*", 21, []int64{6}}, {"uid 500:*", 22, nil}, {"uid 21:*", 22, nil}, {"uid 21:*", 21, []int64{6}}, {"uid 999:*", 1000, nil}, {"uid 1:999", 1000, []int64{1, 2, 3, 4, 5, 6}},
	} {
		askPath(t, fmt.Sprint(by.text, " with ", by.next), impl.SearchBox(parse(t, by.text), fullBox(by.next), 1), impl.OK, by.want)
	}
	last := box("in", 1, 1000, 998, 999)
	askPath(t, "the greatest of all", impl.SearchBox(parse(t, "uid *"), last, 1), impl.OK, []int64{2})
	askPath(t, "all but it", impl.SearchBox(parse(t, "not uid *"), last, 1), impl.OK, []int64{1})
}

func TestMailboxesWithoutAMessage(t *testing.T) {
	for _, terms := range somePrograms() {
		for _, next := range []int64{1, 2, 1000} {
			for _, cmp := range comparators {
				askPath(t, "nothing", impl.SearchBox(terms, box("in", 1, next), cmp), impl.OK, nil)
			}
			askPath(t, "nothing", impl.SearchBox(terms, box("in", 1, next), 0), impl.ErrNone, nil)
		}
	}
}

func TestWhatIsFoundIsJustWhatMatches(t *testing.T) {
	draw := rand.New(rand.NewSource(6))
	mails := lookedInto()
	found := map[int]int{}
	for i := range 3000 {
		b := impl.Box{Name: "in", Validity: 1}
		uid := int64(0)
		for range draw.Intn(7) {
			uid += draw.Int63n(4) + 1
			m := mails[draw.Intn(len(mails))]
			m.Uid = uid
			b.Messages = append(b.Messages, m)
		}
		b.Next = uid + 1 + draw.Int63n(3)
		terms, cmp := anyProgram(draw, i%12+1), draw.Int63n(3)+1
		got := askFound(t, terms, b, cmp)
		found[len(got.List)]++
		for place, m := range b.Messages {
			askMatch(t, terms, m, cmp, b.Next-1, slices.Contains(got.List, int64(place)+1))
		}
		if !slices.IsSorted(got.List) {
			t.Errorf("%v does not rise", got.List)
		}
		if other := impl.SearchBox(notOf(terms), b, cmp); len(terms) < 12 && len(other.List)+len(got.List) != len(b.Messages) {
			t.Errorf("%v and what is not it, %v, are not all", got.List, other.List)
		}
	}
	for n := range 7 {
		if found[n] == 0 {
			t.Errorf("no search found %d messages", n)
		}
	}
}

func TestSearchBoxAsksItsCodesInOrder(t *testing.T) {
	good, faulty := fullBox(21), fullBox(20)
	askPath(t, "no fault", impl.SearchBox(allTerm(), good, 1), impl.OK, numbersFrom(1, 6))
	askPath(t, "terms and a mailbox and cmp", impl.SearchBox(nil, impl.Box{}, 0), impl.ErrMany, nil)
	askPath(t, "terms and a mailbox", impl.SearchBox(flagTerm(0), impl.Box{}, 1), impl.ErrRange, nil)
	askPath(t, "terms and cmp", impl.SearchBox(append(allTerm(), allTerm()...), good, 4), impl.ErrForm, nil)
	askPath(t, "a mailbox and cmp", impl.SearchBox(allTerm(), impl.Box{}, 4), impl.ErrText, nil)
	askPath(t, "a mailbox with a Uid too great", impl.SearchBox(allTerm(), faulty, 0), impl.ErrForm, nil)
	askPath(t, "a mailbox with Next 0", impl.SearchBox(allTerm(), box("in", 1, 0), 0), impl.ErrRange, nil)
	askPath(t, "a mailbox with Next 1001", impl.SearchBox(allTerm(), box("in", 1, 1001), 1), impl.ErrRange, nil)
	askPath(t, "7 messages", impl.SearchBox(allTerm(), box("in", 1, 9, 1, 2, 3, 4, 5, 6, 7), 1), impl.ErrMany, nil)
	for _, cmp := range noComparators {
		askPath(t, "cmp alone", impl.SearchBox(allTerm(), good, cmp), impl.ErrNone, nil)
		askPath(t, "cmp, where nothing is compared", impl.SearchBox(notOf(allTerm()), box("in", 1, 1), cmp), impl.ErrNone, nil)
	}
	codes := map[int64]int{}
	for _, terms := range slices.Concat(faultyTerms(), [][]impl.Term{allTerm(), chain(12), uidTerm(set(0, 0))}) {
		for _, b := range append(boxArguments(), good, faulty) {
			for _, cmp := range []int64{0, 1, 3, 4} {
				codes[askFound(t, terms, b, cmp).Code]++
			}
		}
	}
	for _, code := range []int64{impl.OK, impl.ErrForm, impl.ErrMany, impl.ErrRange, impl.ErrNone, impl.ErrText} {
		if codes[code] == 0 {
			t.Errorf("no search has the code %d", code)
		}
	}
}
