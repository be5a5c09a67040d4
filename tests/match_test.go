package tests

import (
	"fmt"
	"math"
	"math/rand"
	"slices"
	"strings"
	"testing"

	"loop.example/g00447/impl"
)

// parse is the program of a text, which has to be one.
func parse(t *testing.T, text string) []impl.Term {
	t.Helper()
	read := impl.ParseTerms(text)
	if read.Code != impl.OK {
		t.Fatalf("%q is no program", text)
	}
	return read.Terms
}

// hasText tells if characters stand in others, as texts of the library's.
func hasText(cmp int64, text, part []int64) bool {
	return strings.Contains(charsOf(wantMapped(cmp, text)), charsOf(wantMapped(cmp, part)))
}

// wantTerm is what one term answers, where those ahead of it have answered.
func wantTerm(term impl.Term, is []bool, m impl.Message, cmp, most int64) bool {
	data := string(m.Data)
	switch term.Kind {
	case impl.TermFlag:
		return m.Flags/term.Num%2 == 1
	case impl.TermSince:
		return m.Date >= term.Num
	case impl.TermBefore:
		return m.Date < term.Num
	case impl.TermLarger:
		return int64(len(data)) > term.Num
	case impl.TermSubject:
		codes, code := wantSubject(data)
		return code == impl.OK && hasText(cmp, codes, term.Codes)
	case impl.TermBody:
		for place := range wantParts(data) {
			codes, code := wantText(data, int64(place))
			if code == impl.OK && hasText(cmp, codes, term.Codes) {
				return true
			}
		}
		return false
	case impl.TermUid:
		return slices.Contains(wantNumbers(term.Ranges, most), m.Uid)
	case impl.TermNot:
		return !is[term.Left]
	case impl.TermAnd:
		return is[term.Left] && is[term.Right]
	case impl.TermOr:
		return is[term.Left] || is[term.Right]
	}
	return true
}

// wantMatch answers term by term, each behind all that is in it.
func wantMatch(terms []impl.Term, m impl.Message, cmp, most int64) bool {
	if wantTermsFault(terms) != impl.OK || wantMessageFault(m) != impl.OK || isOut(cmp, 1, 3) || isOut(most, 1, 999) {
		return false
	}
	var is []bool
	for _, term := range terms {
		is = append(is, wantTerm(term, is, m, cmp, most))
	}
	return is[len(is)-1]
}

func askMatch(t *testing.T, terms []impl.Term, m impl.Message, cmp, most int64, want bool) {
	t.Helper()
	if got := impl.DoesMatch(terms, m, cmp, most); got != want {
		t.Errorf("%.200v, %d with %d, of {%d %d %d %q}: got %v, want %v", terms, cmp, most, m.Uid, m.Flags, m.Date, m.Data, got, want)
	}
}

// askLooked asks one program, and what is not it, of a message of which nothing else counts.
func askLooked(t *testing.T, text string, m impl.Message, cmp, most int64, want bool) {
	t.Helper()
	askMatch(t, parse(t, text), m, cmp, most, want)
	askMatch(t, parse(t, "not "+text), m, cmp, most, !want)
	askMatch(t, parse(t, "not not "+text), m, cmp, most, want)
	if wantMatch(parse(t, text), m, cmp, most) != want {
		t.Errorf("%q of %q: the test asks for what the document does not", text, m.Data)
	}
}

func mail(data string) impl.Message { return impl.Message{Uid: 1, Data: []byte(data)} }

func TestFlagsThatAreLookedFor(t *testing.T) {
	words := []string{"seen", "answered", "flagged", "deleted"}
	for flags := range int64(16) {
		for place, word := range words {
			askLooked(t, "flag "+word, impl.Message{Uid: 1, Flags: flags}, 1, 1, flags>>place&1 == 1)
		}
	}
}

func TestDatesThatAreLookedFor(t *testing.T) {
	for _, date := range []int64{0, 1, 2, 5, 9998, 9999} {
		for _, num := range []int64{0, 1, 2, 4, 5, 6, 9997, 9998, 9999} {
			m := impl.Message{Uid: 1, Date: date}
			askLooked(t, fmt.Sprint("since ", num), m, 1, 1, date >= num)
			askLooked(t, fmt.Sprint("before ", num), m, 1, 1, date < num)
		}
	}
	askLooked(t, "since 7", impl.Message{Uid: 1, Date: 7}, 1, 1, true)
	askLooked(t, "before 7", impl.Message{Uid: 1, Date: 7}, 1, 1, false)
	askLooked(t, "before 8", impl.Message{Uid: 1, Date: 7}, 1, 1, true)
	askLooked(t, "since 8", impl.Message{Uid: 1, Date: 7}, 1, 1, false)
}

func TestSizesThatAreLookedFor(t *testing.T) {
	for _, size := range []int{0, 1, 2, 7, 399, 400} {
		for _, num := range []int{0, 1, 2, 6, 7, 8, 398, 399, 400} {
			askLooked(t, fmt.Sprint("larger ", num), impl.Message{Uid: 1, Data: someBytes(size)}, 1, 1, size > num)
		}
	}
	askLooked(t, "larger 0", impl.Message{Uid: 1}, 1, 1, false)
	askLooked(t, "larger 0", mail("a"), 1, 1, true)
	askLooked(t, "larger 5", mail("hello"), 1, 1, false)
	askLooked(t, "larger 5", mail("hello!"), 1, 1, true)
	askLooked(t, "larger 400", impl.Message{Uid: 1, Data: someBytes(400)}, 1, 1, false)
}

func TestUidsThatAreLookedFor(t *testing.T) {
	for _, by := range []struct {
		set       string
		uid, most int64
		want      bool
	}{
		{"*", 5, 5, true}, {"*", 4, 5, false}, {"*", 5, 6, false}, {"*", 1, 1, true}, {"*", 999, 999, true}, {"*", 998, 999, false},
		{"3", 3, 9, true}, {"3", 4, 9, false}, {"3", 3, 3, true}, {"3", 3, 2, false}, {"1:3", 2, 9, true}, {"3:1", 2, 9, true}, {"3:1", 4, 9, false}, {"2:*", 9, 9, true}, {"2:*", 1, 9, false}, {"*:2", 5, 9, true},
		{"7:*", 5, 5, true}, {"7:*", 4, 5, false}, {"7:*", 5, 6, false}, {"1,3,5", 3, 9, true}, {"1,3,5", 4, 9, false}, {"1:999", 999, 999, true}, {"1:999", 9, 8, false}, {"*,1", 1, 3, true}, {"*,1", 3, 3, true}, {"*,1", 2, 3, false},
	} {
		askLooked(t, "uid "+by.set, impl.Message{Uid: by.uid}, 1, by.most, by.want)
	}
	// A Uid above the greatest one is in no set, but all else of the message is as it is.
	askLooked(t, "all", impl.Message{Uid: 9}, 1, 1, true)
	askLooked(t, "uid 1:*", impl.Message{Uid: 9}, 1, 1, false)
	for _, list := range someSets() {
		for _, most := range []int64{1, 2, 5, 998, 999} {
			for _, uid := range []int64{1, 2, 3, 5, 7, 998, 999} {
				askMatch(t, uidTerm(list), impl.Message{Uid: uid}, 1, most, slices.Contains(wantNumbers(list, most), uid))
			}
		}
	}
}

func TestSubjectsThatAreLookedFor(t *testing.T) {
	for _, by := range []struct {
		text, data string
		cmp        int64
		want       bool
	}{
		{"a", "", 1, false}, {"a", "\n\na", 1, false}, {"a", "A: a\n\na", 1, false}, {"a", "Subject:\n\na", 1, false}, {"a", "Subject: \n\na", 1, false}, {"a", "Subject: a", 1, true}, {"a", "Subject:a\n\n", 1, true}, {"a", "SUBJECT: bab\n\n", 1, true}, {"A", "Subject: a\n\n", 1, false}, {"A", "Subject: a\n\n", 2, true}, {"a", "Subject: A\n\n", 3, true},
		{"hello", "Subject: say hello\n\n", 1, true}, {"hello", "Subject: hel\n lo\n\n", 1, false}, {"hel", "Subject: say\n hello\n\n", 1, true}, {"hello", "Subject: hell\n\no", 1, false}, {"abc", "Subject: abc", 1, true}, {"abcd", "Subject: abc", 1, false}, {"bc", "Subject: abc\n\n", 1, true}, {"ac", "Subject: abc\n\n", 1, false},
		// The first field of that name counts.
		{"a", "Subject: b\nSubject: a\n\n", 1, false}, {"b", "Subject: b\nSubject: a\n\n", 1, true}, {"a", "Subject:\nSubject: a\n\n", 1, false}, {"a", "Subjects: a\n\n", 1, false}, {"a", "X-Subject: a\n\n", 1, false},
		// Words that are told are looked into, their letters are not.
		{"\xc3\xa4", "Subject: =?utf-8?Q?x=C3=84?=\n\nhello", 3, true}, {"\xc3\xa4", "Subject: =?utf-8?Q?x=C3=84?=\n\nhello", 2, false}, {"\xc3\x84", "Subject: =?utf-8?Q?x=C3=84?=\n\nhello", 1, true}, {"utf-8", "Subject: =?utf-8?Q?x=C3=84?=\n\nhello", 3, false}, {"=?", "Subject: =?utf-8?Q?x=C3=84?=\n\n", 1, false}, {"C3", "Subject: =?utf-8?Q?x=C3=84?=\n\n", 1, false},
		{"\xd0\xb6", "Subject: =?iso-8859-5?B?1g==?=\n\n", 1, true}, {"\xd0\x96", "Subject: =?iso-8859-5?B?1g==?=\n\n", 3, true}, {"\xd0\x96", "Subject: =?iso-8859-5?B?1g==?=\n\n", 2, false}, {"ab", "Subject: =?utf-8?Q?a?= =?US-ASCII?b?Yg==?=\n\n", 1, true}, {"ab", "Subject: =?utf-8?Q?a?= b\n\n", 1, false}, {"ab", "Subject: =?utf-8?Q?a_?=b\n\n", 1, false},
		{"\xc3\xa4", "Subject: \xc3\xa4\n\n", 1, true}, {"\xef\xbf\xbd", "Subject: \xe4\n\n", 1, true}, {"\xc3\xa4", "Subject: \xe4\n\n", 1, false}, {"=?bad?Q?a?=", "Subject: =?bad?Q?a?=\n\n", 1, true}, {"=?BAD", "Subject: =?bad?Q?a?=\n\n", 2, true},
		// A header with a fault tells no subject.
		{"a", "Subject: a\nwrong\n\n", 1, false}, {"a", "wrong\nSubject: a\n\n", 1, false}, {"a", "Subject: a\nB: \x01\n\n", 1, false}, {"a", "Subject: a\n\tb\n\n", 1, false}, {"a", " x\nSubject: a\n\n", 1, false}, {"a", "Subject: a" + strings.Repeat("a", 120) + "\n\n", 1, false}, {"a", "Subject: a\n" + strings.Repeat("A:\n", 8), 1, false}, {"a", "Subject: a\n" + strings.Repeat("A:\n", 7), 1, true},
		{strings.Repeat("a", 20), "Subject: " + strings.Repeat("a", 20) + "\n\n", 1, true}, {strings.Repeat("a", 20), "Subject: " + strings.Repeat("a", 19) + "\n\n", 1, false}, {strings.Repeat("A", 20), "Subject: b" + strings.Repeat("a", 119) + "\n\n", 3, true},
		// The subject of a part is not that of the message.
		{"a", multi("b", "Subject: a\n\na"), 1, false}, {"a", "Subject: a\n" + multi("b", "Subject: c\n\nc"), 1, true}, {"c", "Subject: a\n" + multi("b", "Subject: c\n\nc"), 1, false},
	} {
		askLooked(t, "subject "+by.text, mail(by.data), by.cmp, 1, by.want)
	}
}

func TestBodiesThatAreLookedFor(t *testing.T) {
	wrong, unknown := textOf("utf-8", "base64", "Y"), textOf("utf-7", "", "zeta")
	for _, by := range []struct {
		text, data string
		cmp        int64
		want       bool
	}{
		{"a", "", 1, false}, {"a", "\n", 1, false}, {"a", "a", 1, false}, {"a", "\na", 1, true}, {"a", "A: a", 1, false}, {"a", "A: a\n\n", 1, false}, {"a", "A: a\n\na", 1, true}, {"ell", "Subject: x\n\nhello", 1, true}, {"ELL", "Subject: x\n\nhello", 1, false}, {"ELL", "Subject: x\n\nhello", 2, true}, {"ELL", "Subject: x\n\nhello", 3, true}, {"x", "Subject: x\n\nhello", 1, false}, {"helloo", "\nhello", 1, false}, {"hello", "\nhel\nlo", 1, false},
		// Bytes that are told in letters are looked into, the letters are not.
		{"\xc3\xa4", textOf("utf-8", "base64", "w6\nQ="), 1, true}, {"w6", textOf("utf-8", "base64", "w6Q="), 3, false}, {"\xc3\x84", textOf("utf-8", "base64", "w6Q="), 3, true}, {"\xc3\x84", textOf("utf-8", "base64", "w6Q="), 2, false}, {"\xc3\xa4", textOf("utf-8", "quoted-printable", "=C3=\n=A4"), 1, true}, {"C3", textOf("utf-8", "quoted-printable", "=C3=A4"), 1, false}, {"=C3", textOf("utf-8", "", "=C3=A4"), 1, true},
		{"\xd0\xb6", textOf("iso-8859-5", "", "\xd6"), 1, true}, {"\xd0\x96", textOf("iso-8859-5", "", "\xd6"), 3, true}, {"\xc3\xa4", textOf("iso-8859-1", "", "a\xe4"), 1, true}, {"\xc3\xa4", textOf("utf-16", "base64", "AOQ="), 1, true}, {"\xef\xbf\xbf", textOf("utf-16", "", "\xff\xff"), 1, true},
		// What cannot be seen has nothing in it.
		{"zeta", unknown, 1, false}, {"Y", wrong, 1, false}, {"a", textOf("us-ascii", "", "a\xe4"), 1, false}, {"a", textOf("utf-8", "", "a\xc3"), 1, false}, {"a", textOf("utf-16", "", "a"), 1, false}, {"a", textOf("", "base64", "a"), 1, false}, {"a", textOf("", "quoted-printable", "a="), 1, false}, {"a", "Content-Type: image/x\n\na", 1, false}, {"a", "wrong\n\na", 1, false}, {"a", "Subject: a\nwrong\n\na", 1, false},
		// Of several parts one is enough; what stands between them is none.
		{"two", multi("b", "\none", "\ntwo"), 1, true}, {"one", multi("b", "\none", "\ntwo"), 1, true}, {"three", multi("b", "\none", "\ntwo"), 1, false}, {"onetwo", multi("b", "\none", "\ntwo"), 1, false}, {"--b", multi("b", "\none", "\ntwo"), 1, false}, {"boundary", multi("b", "\none"), 1, false}, {"ahead", head("b") + "ahead\n--b\n\none\n--b--\nbehind", 1, false}, {"behind", head("b") + "ahead\n--b\n\none\n--b--\nbehind", 1, false}, {"one", head("b") + "ahead\n--b\n\none\n--b--\nbehind", 1, true},
		{"\xc3\xa4", multi("b", wrong, unknown, textOf("utf-8", "base64", "w6Q=")), 1, true}, {"\xc3\xa4", multi("b", textOf("utf-8", "base64", "w6Q="), wrong, unknown), 1, true}, {"zeta", multi("b", wrong, unknown, "\nx"), 1, false}, {"x", multi("b", wrong, unknown, "\nx"), 1, true}, {"a", multi("b", "Content-Type: image/x\n\na", "\nb"), 1, false},
		{"three", deepMessage(), 1, true}, {"THREE", deepMessage(), 2, true}, {"one", deepMessage(), 1, true}, {"x", deepMessage(), 1, false}, {"x", multi("b", multi("c", "\nx")), 1, true}, {"x", multi("a", multi("b", multi("c", "\nx"))), 1, false},
		{"x7", multi("b", "\nx1", "\nx2", "\nx3", "\nx4", "\nx5", "\nx6", "\nx7"), 1, true}, {"x8", multi("b", "\nx1", "\nx2", "\nx3", "\nx4", "\nx5", "\nx6", "\nx7", "\nx8"), 1, false},
		{"zz", "\n" + strings.Repeat("a", 397) + "zz", 1, true}, {"zz", "\n" + strings.Repeat("a", 398) + "z", 1, false}, {strings.Repeat("a", 20), "\n" + strings.Repeat("a", 20), 1, true}, {strings.Repeat("a", 20), "\n" + strings.Repeat("a", 19), 1, false},
	} {
		askLooked(t, "body "+by.text, mail(by.data), by.cmp, 1, by.want)
	}
}

func TestTreesThatAreLookedFor(t *testing.T) {
	// A flag each, so that every mixture of answers is met.
	for flags := range int64(16) {
		seen, answered, flagged, deleted := flags&1 != 0, flags&2 != 0, flags&4 != 0, flags&8 != 0
		m := impl.Message{Uid: 1, Flags: flags}
		askLooked(t, "and flag seen flag answered", m, 1, 1, seen && answered)
		askLooked(t, "or flag seen flag answered", m, 1, 1, seen || answered)
		askLooked(t, "and or flag seen flag answered flag flagged", m, 1, 1, (seen || answered) && flagged)
		askLooked(t, "and flag seen or flag answered flag flagged", m, 1, 1, seen && (answered || flagged))
		askLooked(t, "or and flag seen flag answered flag flagged", m, 1, 1, seen && answered || flagged)
		askLooked(t, "or flag seen and flag answered flag flagged", m, 1, 1, seen || answered && flagged)
		askLooked(t, "or and flag seen not flag answered and flag flagged not flag deleted", m, 1, 1, seen && !answered || flagged && !deleted)
		askLooked(t, "and not or flag seen flag answered not and flag flagged flag deleted", m, 1, 1, !(seen || answered) && !(flagged && deleted))
		askLooked(t, "and and and flag seen flag answered flag flagged flag deleted", m, 1, 1, flags == 15)
		askLooked(t, "or flag seen or flag answered or flag flagged flag deleted", m, 1, 1, flags != 0)
		askLooked(t, "and all flag seen", m, 1, 1, seen)
		askLooked(t, "or not all flag seen", m, 1, 1, seen)
	}
	for n := 1; n <= 12; n++ {
		askMatch(t, chain(n), impl.Message{Uid: 1}, 1, 1, n%2 == 1)
	}
}

// lookedInto are messages of which something can be looked for.
func lookedInto() []impl.Message {
	var list []impl.Message
	for i, data := range slices.Concat(viewMessages(), someMessages(), []string{
		"Subject: a\n\nb", "Subject: B\n\nA", "Subject:\n\n", "\nab", "Subject: =?utf-8?B?w4Q=?=\n\nhello ell", "Subject: =?iso-8859-5?Q?=B6?=\nwrong", "Subject: one\n" + multi("b", "\nONE", textOf("iso-8859-5", "", "\xd6\xb6")),
	}) {
		list = append(list, impl.Message{Uid: int64(i)%999 + 1, Flags: int64(i) % 16, Date: int64(i*i*37) % 10000, Data: []byte(data)})
	}
	return append(list, impl.Message{Uid: 999, Flags: 15, Date: 9999, Data: someBytes(400)}, impl.Message{Uid: 1})
}

func TestMessagesHaveJustWhatMatches(t *testing.T) {
	matched := map[bool]int{}
	for _, terms := range somePrograms() {
		for i, m := range lookedInto() {
			cmp, most := comparators[i%3], []int64{1, 5, 40, 998, 999}[i%5]
			want := wantMatch(terms, m, cmp, most)
			askMatch(t, terms, m, cmp, most, want)
			matched[want]++
		}
	}
	if matched[true] < 1000 || matched[false] < 1000 {
		t.Errorf("%d did match, %d did not", matched[true], matched[false])
	}
}

func TestAMessageHasNotWhatItHas(t *testing.T) {
	draw := rand.New(rand.NewSource(5))
	mails := lookedInto()
	for i := range 4000 {
		one, other := anyProgram(draw, i%5+1), anyProgram(draw, draw.Intn(5)+1)
		m, cmp, most := mails[draw.Intn(len(mails))], draw.Int63n(3)+1, draw.Int63n(999)+1
		a, b := wantMatch(one, m, cmp, most), wantMatch(other, m, cmp, most)
		askMatch(t, one, m, cmp, most, a)
		askMatch(t, notOf(one), m, cmp, most, !a)
		askMatch(t, andOf(one, other), m, cmp, most, a && b)
		askMatch(t, orOf(other, one), m, cmp, most, a || b)
		askMatch(t, andOf(one, notOf(one)), m, cmp, most, false)
		askMatch(t, orOf(notOf(one), one), m, cmp, most, true)
	}
}

func TestNothingMatchesWhereThereIsAFault(t *testing.T) {
	good := impl.Message{Uid: 1, Flags: 1, Date: 1, Data: []byte("Subject: a\n\na")}
	programs := [][]impl.Term{allTerm(), notOf(flagTerm(2)), uidTerm(set(1, 0)), notOf(uidTerm(set(2, 2))), subjectTerm("a"), bodyTerm("a"), notOf(bodyTerm("b")), orOf(allTerm(), allTerm())}
	for _, terms := range programs {
		askMatch(t, terms, good, 1, 1, true)
		for _, cmp := range noComparators {
			askMatch(t, terms, good, cmp, 1, false)
			askMatch(t, notOf(terms), good, cmp, 1, false)
		}
		for _, cmp := range comparators {
			askMatch(t, terms, good, cmp, 1, true)
			askMatch(t, notOf(terms), good, cmp, 1, false)
		}
		for _, most := range []int64{math.MinInt64, -1, 0, 1000, 1001, 1<<32 + 1, math.MaxInt64} {
			askMatch(t, terms, good, 1, most, false)
			askMatch(t, notOf(terms), good, 1, most, false)
		}
		for _, m := range messageArgumentsOfBoxes() {
			askMatch(t, terms, m, 1, 999, wantMatch(terms, m, 1, 999))
			if wantMessageFault(m) != impl.OK {
				askMatch(t, terms, m, 1, 999, false)
				askMatch(t, notOf(terms), m, 1, 999, false)
			}
		}
	}
	askMatch(t, allTerm(), good, 1, 999, true)
	for _, terms := range faultyTerms() {
		askMatch(t, terms, good, 1, 1, false)
		askMatch(t, notOf(terms), good, 1, 1, wantMatch(notOf(terms), good, 1, 1))
	}
}
