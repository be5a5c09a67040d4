package tests

import (
	"fmt"
	"math"
	"math/rand"
	"slices"
	"strings"
	"testing"

	"loop.example/g00447/impl"
)

var keys = []int64{impl.KeyDate, impl.KeySize, impl.KeySubject, impl.KeyArrival}

var noKeys = []int64{math.MinInt64, -1, 0, 5, 6, 1<<32 + 1, math.MaxInt64}

// wantRank is a list of numbers by which a message is sorted.
func wantRank(m impl.Message, cmp, key int64) []int64 {
	switch key {
	case impl.KeyDate:
		return []int64{m.Date}
	case impl.KeySize:
		return []int64{int64(len(m.Data))}
	case impl.KeySubject:
		codes, code := wantSubject(string(m.Data))
		if code != impl.OK {
			return nil
		}
		return wantMapped(cmp, codes)
	}
	return []int64{m.Uid}
}

func wantAhead(a, b impl.Message, cmp, key int64) bool {
	if wantMessageFault(a) != impl.OK || wantMessageFault(b) != impl.OK || isOut(cmp, 1, 3) || isOut(key, 1, 4) {
		return false
	}
	return slices.Compare(wantRank(a, cmp, key), wantRank(b, cmp, key)) < 0
}

// wantSorted lets the library sort: what is the same stays in order there, whichever way round the rest goes.
func wantSorted(terms []impl.Term, b impl.Box, cmp, key int64, back bool) (list []int64, code int64) {
	list, code = wantFound(terms, b, cmp)
	if code != impl.OK {
		return nil, code
	}
	if isOut(key, 1, 4) {
		return nil, impl.ErrRange
	}
	ranks := map[int64][]int64{}
	for _, number := range list {
		ranks[number] = wantRank(b.Messages[number-1], cmp, key)
	}
	slices.SortStableFunc(list, func(one, other int64) int {
		if back {
			one, other = other, one
		}
		return slices.Compare(ranks[one], ranks[other])
	})
	return list, impl.OK
}

func askSorted(t *testing.T, terms []impl.Term, b impl.Box, cmp, key int64, back bool) impl.IntsResult {
	t.Helper()
	got := impl.SortBox(terms, b, cmp, key, back)
	list, code := wantSorted(terms, b, cmp, key, back)
	if got.Code != code || !slices.Equal(got.List, list) {
		t.Errorf("%.200v by %d, key %d, back %v, in %.400v: got code %d %v, want code %d %v", terms, cmp, key, back, b, got.Code, got.List, code, list)
	}
	return got
}

// askAhead asks both ways round: where one comes ahead the other one does not.
func askAhead(t *testing.T, a, b impl.Message, cmp, key int64, order int) {
	t.Helper()
	if got, other := impl.ComesAhead(a, b, cmp, key), impl.ComesAhead(b, a, cmp, key); got != (order < 0) || other != (order > 0) {
		t.Errorf("%d, key %d, {%d %d %d %.80q} and {%d %d %d %.80q}: got %v and %v the other way round, want %d", cmp, key, a.Uid, a.Flags, a.Date, a.Data, b.Uid, b.Flags, b.Date, b.Data, got, other, order)
	}
}

// boxWith has a message of each Data, with rising Uids.
func boxWith(data ...string) impl.Box {
	b := impl.Box{Name: "in", Validity: 1, Next: int64(len(data)) + 1}
	for place, one := range data {
		b.Messages = append(b.Messages, impl.Message{Uid: int64(place) + 1, Data: []byte(one)})
	}
	return b
}

// boxDated has a message of each Date, with rising Uids.
func boxDated(dates ...int64) impl.Box {
	b := boxWith(make([]string, len(dates))...)
	for place, date := range dates {
		b.Messages[place].Date = date
	}
	return b
}

// boxSized has a message of each size, with rising Uids.
func boxSized(sizes ...int64) impl.Box {
	var data []string
	for _, size := range sizes {
		data = append(data, string(someBytes(int(size))))
	}
	return boxWith(data...)
}

func boxTitled(subjects ...string) impl.Box {
	var data []string
	for _, subject := range subjects {
		data = append(data, "Subject: "+subject+"\n\n")
	}
	return boxWith(data...)
}

func TestKeysByTheirWords(t *testing.T) {
	askInt(t, "date", impl.KeyOf("date"), impl.OK, 1)
	askInt(t, "size", impl.KeyOf("size"), impl.OK, 2)
	askInt(t, "subject", impl.KeyOf("subject"), impl.OK, 3)
	askInt(t, "arrival", impl.KeyOf("arrival"), impl.OK, 4)
	none := append(nameArguments(), "", " ", "\n", "\x00", "uid", "Uid", "key", "from", "up", "down", "1", "0", "date size", "datesize", "all", "body", "d", "larger", "since")
	for _, word := range []string{"date", "size", "subject", "arrival"} {
		none = append(none, strings.ToUpper(word), strings.ToUpper(word[:1])+word[1:], word[:len(word)-1]+strings.ToUpper(word[len(word)-1:]))
		none = append(none, word+" ", " "+word, word+"\n", word+"\x00", word[:2]+" "+word[2:], word[:len(word)-1], word[1:], word+"s", "a"+word, word+word, word[:1]+word)
	}
	for _, word := range none {
		askInt(t, fmt.Sprintf("%.30q", word), impl.KeyOf(word), impl.ErrNone, 0)
	}
}

func TestNumbersThatComeAhead(t *testing.T) {
	dates, sizes, uids := []int64{0, 1, 2, 9, 10, 9998, 9999}, []int64{0, 1, 2, 9, 10, 399, 400}, []int64{1, 2, 9, 10, 11, 998, 999}
	for i := range dates {
		for k := range dates {
			// All else goes the other way round, so that only the key can tell it.
			a := impl.Message{Uid: uids[i], Date: dates[6-i], Data: someBytes(int(sizes[(i+3)%7]))}
			b := impl.Message{Uid: uids[k], Date: dates[6-k], Data: someBytes(int(sizes[(k+3)%7]))}
			for _, cmp := range comparators {
				askAhead(t, a, b, cmp, impl.KeyArrival, i-k)
				askAhead(t, a, b, cmp, impl.KeyDate, k-i)
				askAhead(t, a, b, cmp, impl.KeySize, (i+3)%7-(k+3)%7)
				askAhead(t, a, b, cmp, impl.KeySubject, 0)
			}
		}
	}
	askAhead(t, impl.Message{Uid: 1, Flags: 15}, impl.Message{Uid: 1}, 1, impl.KeyArrival, 0)
	askAhead(t, impl.Message{Uid: 1, Data: []byte("a")}, impl.Message{Uid: 1, Data: []byte("b")}, 1, impl.KeySize, 0)
	askAhead(t, impl.Message{Uid: 1, Data: []byte{}}, impl.Message{Uid: 1}, 1, impl.KeySize, 0)
	askAhead(t, impl.Message{Uid: 2}, impl.Message{Uid: 1, Data: []byte("a")}, 1, impl.KeySize, -1)
}

// The rows are in order; subjects that stand in one of them together are the same.
func TestSubjectsThatComeAhead(t *testing.T) {
	for _, by := range []struct {
		cmp  int64
		rows [][]string
	}{
		{1, [][]string{{""}, {" "}, {"A"}, {"B"}, {"Ba"}, {"a"}, {"aB"}, {"ab"}, {"b"}, {"Ä", "=?utf-8?B?w4Q=?=", "=?iso-8859-1?Q?=C4?="}, {"ä", "=?utf-8?Q?=C3=A4?=", "=?utf-8?B?w6Q=?="}, {"Ж", "=?iso-8859-5?Q?=B6?="}, {"ж", "=?iso-8859-5?q?=D6?="}, {"\xff", "\xfe"}}},
		{2, [][]string{{""}, {"a", "A", "=?us-ascii?Q?a?="}, {"AB", "ab", "aB", "=?utf-8?Q?A?= =?utf-8?Q?b?="}, {"b", "B"}, {"_"}, {"{"}, {"Ä"}, {"ä"}, {"Ж"}, {"ж"}}},
		{3, [][]string{{""}, {"a", "A"}, {"AB", "ab"}, {"b", "B"}, {"Ä", "ä", "=?iso-8859-1?Q?=E4?="}, {"÷"}, {"Σ", "σ"}, {"ς"}, {"Ё", "ё"}, {"Ж", "ж", "=?iso-8859-5?Q?=D6?="}}},
	} {
		for i, row := range by.rows {
			for k, other := range by.rows {
				for _, one := range row {
					for _, two := range other {
						a, b := mail("Subject: "+one+"\n\nzz"), mail("subject: "+two+"\n\na")
						a.Uid, b.Uid = int64(len(by.rows)-i), int64(len(by.rows)-k)
						askAhead(t, a, b, by.cmp, impl.KeySubject, i-k)
					}
				}
			}
		}
	}
}

func TestSubjectsThatAreNothing(t *testing.T) {
	nothing := []string{"", "\n", "x", "wrong\n\nSubject: zz", "Subject:\n\n", "Subject: \n\n", "Subject:", "X: zz\n\n", "\nSubject: zz\n\n", "Subject: zz\nwrong\n\n", " Subject: zz\n", "Subject: zz\n\tb\n\n", "Subject: " + strings.Repeat("z", 121) + "\n\n", strings.Repeat("A:\n", 8) + "Subject: zz\n\n", string(someBytes(400)), "subject:\nSubject: zz\n\n"}
	something := []string{"Subject: !\n\n", "Subject:  \n\n", "Subject: zz", "SUBJECT:a\n", "X: y\nSubject: =?utf-8?Q?=00?=\n\n", "Subject: " + strings.Repeat("z", 120) + "\n\n", strings.Repeat("A:\n", 7) + "Subject: zz\n\n", "Subject: \xff\n\n"}
	for _, cmp := range comparators {
		for _, one := range nothing {
			for _, other := range nothing {
				askAhead(t, mail(one), mail(other), cmp, impl.KeySubject, 0)
			}
			for _, other := range something {
				askAhead(t, mail(one), mail(other), cmp, impl.KeySubject, -1)
			}
		}
	}
	// With back they are behind all others, and still in their order among themselves.
	b := boxWith("wrong", "Subject: a\n\n", "Subject:\n\n", "Subject: b\n\n", "X: y\n\n", "")
	askPath(t, "nothing first", impl.SortBox(allTerm(), b, 1, impl.KeySubject, false), impl.OK, []int64{1, 3, 5, 6, 2, 4})
	askPath(t, "nothing last", impl.SortBox(allTerm(), b, 1, impl.KeySubject, true), impl.OK, []int64{4, 2, 1, 3, 5, 6})
}

// comparedMessages have no fault, and are the same by some keys and not by others.
func comparedMessages() []impl.Message {
	var list []impl.Message
	for i, data := range []string{"", "x", "Subject: a\n\n", "Subject: A\n\n", "Subject: ab\n\n", "Subject: ä\n\n", "Subject: =?utf-8?B?w4Q=?=\n\n", "Subject: b\n\nhello", "wrong\n\n", string(someBytes(400))} {
		list = append(list, impl.Message{Uid: int64(i%4) + 1, Date: int64(i % 3), Data: []byte(data)}, impl.Message{Uid: 999 - int64(i%3), Flags: 15, Date: 9999 - int64(i%2), Data: []byte(data)})
	}
	return list
}

func TestOfTwoMessagesNotBothComeAhead(t *testing.T) {
	for _, list := range [][]impl.Message{comparedMessages(), lookedInto(), fullBox(21).Messages} {
		for _, cmp := range comparators {
			for _, key := range keys {
				for _, a := range list {
					askAhead(t, a, a, cmp, key, 0)
					for _, b := range list {
						askAhead(t, a, b, cmp, key, slices.Compare(wantRank(a, cmp, key), wantRank(b, cmp, key)))
					}
				}
			}
		}
	}
}

func TestWhatComesAheadGoesOn(t *testing.T) {
	list := comparedMessages()
	for _, cmp := range comparators {
		for _, key := range keys {
			for _, a := range list {
				for _, b := range list {
					for _, c := range list {
						ab, bc, ac := impl.ComesAhead(a, b, cmp, key), impl.ComesAhead(b, c, cmp, key), impl.ComesAhead(a, c, cmp, key)
						if ab && bc && !ac || !ab && !bc && ac {
							t.Errorf("%d, key %d, %.80q, %.80q, %.80q: %v, %v, but %v", cmp, key, a.Data, b.Data, c.Data, ab, bc, ac)
						}
					}
				}
			}
		}
	}
}

func TestNoneComesAheadWhereThereIsAFault(t *testing.T) {
	first, last := impl.Message{Uid: 1}, impl.Message{Uid: 999, Flags: 15, Date: 9999, Data: []byte("Subject: zz\n\n")}
	for _, key := range keys {
		askAhead(t, first, last, 1, key, -1)
	}
	faulty := []impl.Message{{}, {Uid: -1}, {Uid: 1000}, {Uid: math.MinInt64}, {Uid: math.MaxInt64}, {Uid: 1, Flags: -1}, {Uid: 1, Flags: 16}, {Uid: 1, Date: -1}, {Uid: 1, Date: 10000}, {Uid: 1, Date: math.MinInt64}, {Uid: 1, Data: someBytes(401)}, {Uid: 1, Data: []byte("Subject: a\n\n" + strings.Repeat("x", 400))}}
	for _, wrong := range faulty {
		for _, cmp := range comparatorArguments() {
			for _, key := range append(keys, noKeys...) {
				askAhead(t, wrong, first, cmp, key, 0)
				askAhead(t, wrong, last, cmp, key, 0)
				for _, other := range faulty {
					askAhead(t, wrong, other, cmp, key, 0)
				}
			}
		}
	}
	for _, key := range keys {
		for _, cmp := range noComparators {
			askAhead(t, first, last, cmp, key, 0)
		}
	}
	for _, cmp := range comparatorArguments() {
		for _, key := range noKeys {
			askAhead(t, first, last, cmp, key, 0)
		}
	}
	for i, a := range messageArgumentsOfBoxes()[:90] {
		for _, b := range messageArgumentsOfBoxes()[i:] {
			for _, key := range []int64{1, 2, 3, 4} {
				askBool(t, fmt.Sprint(i), impl.ComesAhead(a, b, 1, key), wantAhead(a, b, 1, key))
			}
		}
	}
}

func TestWhatIsSortedByHand(t *testing.T) {
	b := fullBox(21)
	for _, by := range []struct {
		text     string
		cmp, key int64
		up, down []int64
	}{
		{"all", 1, impl.KeyDate, []int64{2, 6, 1, 3, 5, 4}, []int64{4, 5, 1, 3, 6, 2}},
		{"all", 1, impl.KeyArrival, []int64{1, 2, 3, 4, 5, 6}, []int64{6, 5, 4, 3, 2, 1}},
		{"all", 1, impl.KeySize, []int64{2, 5, 1, 3, 6, 4}, []int64{4, 6, 3, 1, 5, 2}},
		{"all", 1, impl.KeySubject, []int64{2, 5, 6, 1, 4, 3}, []int64{3, 4, 1, 2, 5, 6}},
		{"all", 2, impl.KeySubject, []int64{2, 5, 6, 1, 4, 3}, []int64{3, 1, 4, 2, 5, 6}},
		{"all", 3, impl.KeySubject, []int64{2, 5, 6, 1, 4, 3}, []int64{3, 1, 4, 2, 5, 6}},
		{"flag seen", 1, impl.KeyDate, []int64{1, 3, 5}, []int64{5, 1, 3}},
		{"not flag seen", 1, impl.KeyDate, []int64{2, 6, 4}, []int64{4, 6, 2}},
		{"since 10", 1, impl.KeyDate, []int64{1, 3, 5, 4}, []int64{4, 5, 1, 3}},
		{"since 10", 2, impl.KeySubject, []int64{5, 1, 4, 3}, []int64{3, 1, 4, 5}},
		{"uid *,5", 1, impl.KeyArrival, []int64{3, 6}, []int64{6, 3}},
		{"uid 5", 1, impl.KeySize, []int64{3}, []int64{3}},
		{"not all", 1, impl.KeySize, nil, nil},
	} {
		what := fmt.Sprint(by.text, " by ", by.cmp, ", key ", by.key)
		askPath(t, what, impl.SortBox(parse(t, by.text), b, by.cmp, by.key, false), impl.OK, by.up)
		askPath(t, what+", back", impl.SortBox(parse(t, by.text), b, by.cmp, by.key, true), impl.OK, by.down)
	}
}

func TestSubjectsThatAreTheSameByOneComparatorAlone(t *testing.T) {
	b := boxTitled("b", "A", "a", "Ä", "B", "ä")
	for _, by := range []struct {
		cmp      int64
		up, down []int64
	}{
		{1, []int64{2, 5, 3, 1, 4, 6}, []int64{6, 4, 1, 3, 5, 2}},
		{2, []int64{2, 3, 1, 5, 4, 6}, []int64{6, 4, 1, 5, 2, 3}},
		{3, []int64{2, 3, 1, 5, 4, 6}, []int64{4, 6, 1, 5, 2, 3}},
	} {
		askPath(t, fmt.Sprint("by ", by.cmp), impl.SortBox(allTerm(), b, by.cmp, impl.KeySubject, false), impl.OK, by.up)
		askPath(t, fmt.Sprint("back, by ", by.cmp), impl.SortBox(allTerm(), b, by.cmp, impl.KeySubject, true), impl.OK, by.down)
	}
	told := boxTitled("=?utf-8?Q?zz?=", "=?iso-8859-1?Q?=C4?=", "=?bad?Q?a?=", "zz", "=?utf-8?B?w6Q=?=", "A =?utf-8?Q?b?=")
	askPath(t, "words that are told", impl.SortBox(allTerm(), told, 1, impl.KeySubject, false), impl.OK, []int64{3, 6, 1, 4, 2, 5})
	askPath(t, "words that are told, back", impl.SortBox(allTerm(), told, 3, impl.KeySubject, true), impl.OK, []int64{2, 5, 1, 4, 6, 3})
}

func TestWhatIsTheSameStaysInOrder(t *testing.T) {
	for _, b := range []impl.Box{boxDated(7, 7, 7, 7, 7, 7), boxSized(400, 400, 400, 400, 400, 400), boxSized(0, 0, 0, 0, 0, 0), boxTitled("a", "a", "a", "a", "a", "a"), boxTitled("", "", "", "", "", ""), boxWith("x", "", "Subject:", "wrong\n\n", "A: b\n\n", "\nSubject: b\n\n")} {
		for _, key := range keys {
			for _, back := range []bool{false, true} {
				askSorted(t, allTerm(), b, 1, key, back)
			}
		}
	}
	askPath(t, "the same Date", impl.SortBox(allTerm(), boxDated(7, 7, 7, 7, 7, 7), 1, impl.KeyDate, true), impl.OK, numbersFrom(1, 6))
	askPath(t, "the same size", impl.SortBox(allTerm(), boxSized(9, 9, 9, 9, 9, 9), 1, impl.KeySize, true), impl.OK, numbersFrom(1, 6))
	askPath(t, "the same subject", impl.SortBox(allTerm(), boxTitled("a", "A", "a", "A", "a", "A"), 2, impl.KeySubject, true), impl.OK, numbersFrom(1, 6))
	askPath(t, "Uids are never the same", impl.SortBox(allTerm(), boxDated(7, 7, 7, 7, 7, 7), 1, impl.KeyArrival, true), impl.OK, []int64{6, 5, 4, 3, 2, 1})
}

// All rows of six out of three values: each order there is, with whatever is the same among them.
func TestEachOrderOfSix(t *testing.T) {
	subjects, sizes := []string{"a", "B", "ab"}, []int64{0, 7, 400}
	for n := range 729 {
		var dates, long []int64
		var titles []string
		for row := n; len(dates) < 6; row /= 3 {
			dates, long, titles = append(dates, int64(row%3)*5), append(long, sizes[row%3]), append(titles, subjects[row%3])
		}
		for _, back := range []bool{false, true} {
			askSorted(t, allTerm(), boxDated(dates...), 1, impl.KeyDate, back)
			askSorted(t, allTerm(), boxSized(long...), 2, impl.KeySize, back)
			askSorted(t, allTerm(), boxTitled(titles...), int64(n%3)+1, impl.KeySubject, back)
			askSorted(t, uidTerm(set(2, 5)), boxDated(dates...), 3, impl.KeyDate, back)
		}
	}
}

func TestDatesThatRiseAndFall(t *testing.T) {
	for _, by := range []struct {
		dates    []int64
		up, down []int64
	}{
		{[]int64{0, 1, 2, 3, 4, 9999}, []int64{1, 2, 3, 4, 5, 6}, []int64{6, 5, 4, 3, 2, 1}},
		{[]int64{9999, 4, 3, 2, 1, 0}, []int64{6, 5, 4, 3, 2, 1}, []int64{1, 2, 3, 4, 5, 6}},
		{[]int64{3, 0, 9999, 5, 0, 4}, []int64{2, 5, 1, 6, 4, 3}, []int64{3, 4, 6, 1, 2, 5}},
		{[]int64{2, 1, 2, 1, 2, 1}, []int64{2, 4, 6, 1, 3, 5}, []int64{1, 3, 5, 2, 4, 6}},
		{[]int64{10, 9}, []int64{2, 1}, []int64{1, 2}}, {[]int64{5}, []int64{1}, []int64{1}}, {nil, nil, nil},
	} {
		b := boxDated(by.dates...)
		askPath(t, fmt.Sprint(by.dates), impl.SortBox(allTerm(), b, 1, impl.KeyDate, false), impl.OK, by.up)
		askPath(t, fmt.Sprint(by.dates, " back"), impl.SortBox(allTerm(), b, 1, impl.KeyDate, true), impl.OK, by.down)
	}
}

func TestMailboxesWithoutAMessageAreSorted(t *testing.T) {
	for _, key := range keys {
		for _, cmp := range comparators {
			for _, back := range []bool{false, true} {
				askPath(t, "nothing", impl.SortBox(allTerm(), box("in", 1, 1), cmp, key, back), impl.OK, nil)
				askPath(t, "one", impl.SortBox(allTerm(), box("in", 1, 1000, 999), cmp, key, back), impl.OK, []int64{1})
				askPath(t, "one that is not found", impl.SortBox(notOf(allTerm()), box("in", 1, 1000, 999), cmp, key, back), impl.OK, nil)
			}
		}
	}
}

// askInOrder asks the promise itself, by what the program says of two messages.
func askInOrder(t *testing.T, b impl.Box, cmp, key int64, back bool, list []int64) {
	t.Helper()
	for at, number := range list {
		for _, behind := range list[at+1:] {
			first, second := b.Messages[number-1], b.Messages[behind-1]
			if back {
				first, second = second, first
			}
			if impl.ComesAhead(second, first, cmp, key) {
				t.Errorf("%v, key %d, back %v: %d stands ahead of %d", list, key, back, number, behind)
			}
			if !impl.ComesAhead(first, second, cmp, key) && number > behind {
				t.Errorf("%v, key %d, back %v: %d and %d are the same, but not in order", list, key, back, number, behind)
			}
		}
	}
}

func TestWhatIsSortedIsWhatIsFound(t *testing.T) {
	draw := rand.New(rand.NewSource(7))
	mails := append(lookedInto(), comparedMessages()...)
	found := map[int]int{}
	for i := range 3000 {
		b := impl.Box{Name: "in", Validity: 1}
		uid := int64(0)
		for range draw.Intn(7) {
			uid += draw.Int63n(4) + 1
			m := mails[draw.Intn(len(mails))]
			m.Uid, m.Date = uid, draw.Int63n(3)
			b.Messages = append(b.Messages, m)
		}
		b.Next = uid + 1 + draw.Int63n(3)
		terms, cmp, key, back := anyProgram(draw, i%12+1), draw.Int63n(3)+1, draw.Int63n(4)+1, draw.Intn(2) == 1
		got := askSorted(t, terms, b, cmp, key, back)
		found[len(got.List)]++
		askPath(t, "in their order", impl.IntsResult{List: slices.Sorted(slices.Values(got.List))}, impl.OK, impl.SearchBox(terms, b, cmp).List)
		askInOrder(t, b, cmp, key, back, got.List)
	}
	for n := range 7 {
		if found[n] == 0 {
			t.Errorf("no search found %d messages", n)
		}
	}
}

func TestSortBoxAsksItsCodesInOrder(t *testing.T) {
	good, faulty := fullBox(21), fullBox(20)
	for _, back := range []bool{false, true} {
		askPath(t, "all is wrong", impl.SortBox(nil, impl.Box{}, 0, 0, back), impl.ErrMany, nil)
		askPath(t, "terms, cmp and key", impl.SortBox(flagTerm(0), good, 4, 5, back), impl.ErrRange, nil)
		askPath(t, "terms and key", impl.SortBox(append(allTerm(), allTerm()...), good, 1, 5, back), impl.ErrForm, nil)
		askPath(t, "a mailbox, cmp and key", impl.SortBox(allTerm(), impl.Box{}, 4, 0, back), impl.ErrText, nil)
		askPath(t, "a mailbox and key", impl.SortBox(allTerm(), faulty, 1, 0, back), impl.ErrForm, nil)
		askPath(t, "7 messages and key", impl.SortBox(allTerm(), box("in", 1, 9, 1, 2, 3, 4, 5, 6, 7), 1, 5, back), impl.ErrMany, nil)
		for _, cmp := range noComparators {
			askPath(t, "cmp alone", impl.SortBox(allTerm(), good, cmp, 1, back), impl.ErrNone, nil)
			askPath(t, "cmp, where nothing is found", impl.SortBox(notOf(allTerm()), box("in", 1, 1), cmp, 1, back), impl.ErrNone, nil)
			for _, key := range noKeys {
				askPath(t, "cmp and key", impl.SortBox(allTerm(), good, cmp, key, back), impl.ErrNone, nil)
			}
		}
		for _, key := range noKeys {
			askPath(t, "key alone", impl.SortBox(allTerm(), good, 1, key, back), impl.ErrRange, nil)
			askPath(t, "key, where nothing is found", impl.SortBox(notOf(allTerm()), good, 1, key, back), impl.ErrRange, nil)
			askPath(t, "key, where there is no message", impl.SortBox(allTerm(), box("in", 1, 1), 3, key, back), impl.ErrRange, nil)
		}
	}
	codes := map[int64]int{}
	for i, terms := range slices.Concat(faultyTerms(), [][]impl.Term{allTerm(), chain(12), uidTerm(set(0, 0))}) {
		for _, b := range append(boxArguments(), good, faulty) {
			for _, cmp := range []int64{0, 1, 4} {
				codes[askSorted(t, terms, b, cmp, []int64{0, 1, 4, 5}[i%4], i%3 == 0).Code]++
			}
		}
	}
	for _, key := range append(keys, noKeys...) {
		for _, b := range searchedBoxes() {
			codes[askSorted(t, allTerm(), b, 3, key, key%2 == 0).Code]++
		}
	}
	for _, code := range []int64{impl.OK, impl.ErrForm, impl.ErrMany, impl.ErrRange, impl.ErrNone, impl.ErrText} {
		if codes[code] == 0 {
			t.Errorf("nothing that is sorted has the code %d", code)
		}
	}
}
