package tests

import (
	"fmt"
	"math"
	"math/rand"
	"slices"
	"strings"
	"testing"

	"loop.example/g00447/impl"
)

// Programs are put together from the inside out; no two of them share a list.

func allTerm() []impl.Term { return []impl.Term{{Kind: impl.TermAll}} }

func numTerm(kind, num int64) []impl.Term { return []impl.Term{{Kind: kind, Num: num}} }

func flagTerm(flag int64) []impl.Term { return numTerm(impl.TermFlag, flag) }

func charsTerm(kind int64, text string) []impl.Term {
	return []impl.Term{{Kind: kind, Codes: codesOf(text)}}
}

func subjectTerm(text string) []impl.Term { return charsTerm(impl.TermSubject, text) }

func bodyTerm(text string) []impl.Term { return charsTerm(impl.TermBody, text) }

func uidTerm(list []impl.Range) []impl.Term {
	return []impl.Term{{Kind: impl.TermUid, Ranges: slices.Clone(list)}}
}

func notOf(of []impl.Term) []impl.Term {
	return append(movedTerms(of, 0), impl.Term{Kind: impl.TermNot, Left: int64(len(of)) - 1})
}

func twoOf(kind int64, left, right []impl.Term) []impl.Term {
	list := append(movedTerms(left, 0), movedTerms(right, int64(len(left)))...)
	return append(list, impl.Term{Kind: kind, Left: int64(len(left)) - 1, Right: int64(len(list)) - 1})
}

func andOf(left, right []impl.Term) []impl.Term { return twoOf(impl.TermAnd, left, right) }

func orOf(left, right []impl.Term) []impl.Term { return twoOf(impl.TermOr, left, right) }

// movedTerms are the same terms in new memory, so many places further behind.
func movedTerms(terms []impl.Term, by int64) []impl.Term {
	var list []impl.Term
	for _, term := range terms {
		term.Codes, term.Ranges = slices.Clone(term.Codes), slices.Clone(term.Ranges)
		if slices.Contains(thingsOfTerms[term.Kind], "Left") {
			term.Left += by
		}
		if slices.Contains(thingsOfTerms[term.Kind], "Right") {
			term.Right += by
		}
		list = append(list, term)
	}
	return list
}

// thingsOfTerms are what each kind has.
var thingsOfTerms = map[int64][]string{
	impl.TermAll: {}, impl.TermFlag: {"Num"}, impl.TermSince: {"Num"}, impl.TermBefore: {"Num"}, impl.TermLarger: {"Num"},
	impl.TermSubject: {"Codes"}, impl.TermBody: {"Codes"}, impl.TermUid: {"Ranges"},
	impl.TermNot: {"Left"}, impl.TermAnd: {"Left", "Right"}, impl.TermOr: {"Left", "Right"},
}

// chain is a not of a not, and so on, of so many terms in all.
func chain(n int) []impl.Term {
	list := allTerm()
	for len(list) < n {
		list = notOf(list)
	}
	return list
}

// comb is a tree of so many terms of two, all of them on one side, with a flag, a date or characters at each end.
func comb(n int, onTheRight bool) []impl.Term {
	list := subjectTerm("x")
	for i := range n {
		kind := []int64{impl.TermAnd, impl.TermOr}[i%2]
		end := [][]impl.Term{flagTerm(1 << (i % 4)), numTerm(impl.TermSince, int64(i)), bodyTerm(strings.Repeat("ä", i+1))}[i%3]
		if onTheRight {
			list = twoOf(kind, end, list)
		} else {
			list = twoOf(kind, list, end)
		}
	}
	return list
}

// someLeaves are programs of one term each, with the edges of each kind.
func someLeaves() [][]impl.Term {
	list := [][]impl.Term{allTerm(), flagTerm(1), flagTerm(2), flagTerm(4), flagTerm(8)}
	for _, date := range []int64{0, 1, 5, 10, 9998, 9999} {
		list = append(list, numTerm(impl.TermSince, date), numTerm(impl.TermBefore, date))
	}
	for _, size := range []int64{0, 1, 9, 10, 399, 400} {
		list = append(list, numTerm(impl.TermLarger, size))
	}
	for _, text := range []string{"!", "a", "~", "ä", "\u0080", "all", "x=?", "ЖЖ", "\ud7ff", "\ue000", "\uffff", "\ufffd", "abcdefghijklmnopqrst", strings.Repeat("\uffff", 20), "\u00a0", "seen", "1:*"} {
		list = append(list, subjectTerm(text), bodyTerm(text))
	}
	for _, ranges := range someSets() {
		list = append(list, uidTerm(ranges))
	}
	return list
}

// somePrograms have no fault.
func somePrograms() [][]impl.Term {
	list := someLeaves()
	for _, leaf := range someLeaves() {
		list = append(list, notOf(leaf))
	}
	for n := 1; n <= 5; n++ {
		list = append(list, comb(n, false), comb(n, true), notOf(comb(n, true)), orOf(flagTerm(2), notOf(comb(n-1, false))))
	}
	for n := 2; n <= 12; n++ {
		list = append(list, chain(n))
	}
	return append(list,
		andOf(subjectTerm("ä"), notOf(orOf(flagTerm(1), numTerm(impl.TermBefore, 5)))),
		orOf(andOf(allTerm(), flagTerm(1)), andOf(flagTerm(2), allTerm())),
		orOf(andOf(orOf(allTerm(), flagTerm(1)), flagTerm(4)), andOf(flagTerm(2), orOf(uidTerm(set(1, 0)), allTerm()))),
		andOf(chain(5), chain(6)), andOf(chain(1), chain(10)), orOf(chain(10), chain(1)), andOf(chain(2), notOf(chain(3))))
}

// anyLeaf is drawn from all kinds.
func anyLeaf(draw *rand.Rand) []impl.Term {
	leaves := someLeaves()
	if draw.Intn(3) > 0 {
		return leaves[draw.Intn(len(leaves))]
	}
	texts := []string{"a", "A", "b", "ä", "Ä", "ж", "Ж", "ab", "ell", "one", "x"}
	return [][]impl.Term{
		flagTerm(1 << draw.Intn(4)), numTerm(impl.TermSince, draw.Int63n(10000)), numTerm(impl.TermBefore, draw.Int63n(10000)), numTerm(impl.TermLarger, draw.Int63n(401)),
		subjectTerm(texts[draw.Intn(len(texts))]), bodyTerm(texts[draw.Intn(len(texts))]), uidTerm(anySet(draw, 999)), uidTerm(anySet(draw, 9)),
	}[draw.Intn(8)]
}

// anyProgram has just so many terms.
func anyProgram(draw *rand.Rand, count int) []impl.Term {
	switch {
	case count == 1:
		return anyLeaf(draw)
	case count == 2 || draw.Intn(3) == 0:
		return notOf(anyProgram(draw, count-1))
	}
	left := draw.Intn(count-2) + 1
	return twoOf(impl.TermAnd+draw.Int63n(2), anyProgram(draw, left), anyProgram(draw, count-1-left))
}

// hasThings are what a term has, whatever its kind.
func hasThings(term impl.Term) []string {
	var list []string
	for _, thing := range []struct {
		name    string
		isThere bool
	}{{"Num", term.Num != 0}, {"Codes", len(term.Codes) > 0}, {"Ranges", len(term.Ranges) > 0}, {"Left", term.Left != 0}, {"Right", term.Right != 0}} {
		if thing.isThere {
			list = append(list, thing.name)
		}
	}
	return list
}

func isMore(things, than []string) bool {
	return slices.ContainsFunc(things, func(thing string) bool { return !slices.Contains(than, thing) })
}

// isWrongNum asks Num and Codes of a term whose kind may have them.
func isWrongNum(term impl.Term) bool {
	switch term.Kind {
	case impl.TermFlag:
		return !slices.Contains([]int64{1, 2, 4, 8}, term.Num)
	case impl.TermSince, impl.TermBefore:
		return isOut(term.Num, 0, 9999)
	case impl.TermLarger:
		return isOut(term.Num, 0, 400)
	case impl.TermSubject, impl.TermBody:
		isWrong := func(c int64) bool { return isOut(c, 33, 65535) || c == 127 || !isOut(c, 55296, 57343) }
		return isOut(int64(len(term.Codes)), 1, 20) || slices.ContainsFunc(term.Codes, isWrong)
	}
	return false
}

// wantTermsFault counts how many terms each one has in it, itself counted.
func wantTermsFault(terms []impl.Term) int64 {
	if len(terms) < 1 || len(terms) > 12 {
		return impl.ErrMany
	}
	var sizes []int64
	for i, term := range terms {
		place := int64(i)
		things, ok := thingsOfTerms[term.Kind]
		code := firstCode(asked{!ok || isMore(hasThings(term), things), impl.ErrForm}, asked{isWrongNum(term), impl.ErrRange})
		if code == impl.OK && term.Kind == impl.TermUid {
			code = wantRangesFault(term.Ranges)
		}
		if code != impl.OK {
			return code
		}
		size := int64(1)
		if len(things) == 1 && things[0] == "Left" {
			if place == 0 || term.Left != place-1 {
				return impl.ErrForm
			}
			size += sizes[place-1]
		}
		if len(things) == 2 {
			if place == 0 || term.Right != place-1 || term.Left != place-1-sizes[place-1] || term.Left < 0 {
				return impl.ErrForm
			}
			size += sizes[term.Right] + sizes[term.Left]
		}
		sizes = append(sizes, size)
	}
	return firstCode(asked{sizes[len(sizes)-1] != int64(len(terms)), impl.ErrForm})
}

func askTermsFault(t *testing.T, terms []impl.Term) int64 {
	t.Helper()
	want := wantTermsFault(terms)
	if got := impl.TermsFault(terms); got != want {
		t.Errorf("%.300v: got code %d, want code %d", terms, got, want)
	}
	return want
}

func TestProgramsWithoutAFault(t *testing.T) {
	for _, terms := range somePrograms() {
		askCode(t, fmt.Sprint(terms), impl.TermsFault(terms), impl.OK)
		askTermsFault(t, terms)
	}
	draw := rand.New(rand.NewSource(1))
	for i := range 4000 {
		askCode(t, "any program", impl.TermsFault(anyProgram(draw, i%12+1)), impl.OK)
	}
}

func TestHowManyTerms(t *testing.T) {
	askCode(t, "nil", impl.TermsFault(nil), impl.ErrMany)
	askCode(t, "no term", impl.TermsFault([]impl.Term{}), impl.ErrMany)
	askCode(t, "1 term", impl.TermsFault(allTerm()), impl.OK)
	for n := 1; n <= 12; n++ {
		askCode(t, fmt.Sprint("a chain of ", n), impl.TermsFault(chain(n)), impl.OK)
	}
	askCode(t, "a chain of 13", impl.TermsFault(chain(13)), impl.ErrMany)
	askCode(t, "a comb of 11", impl.TermsFault(comb(5, true)), impl.OK)
	askCode(t, "a comb of 12", impl.TermsFault(notOf(comb(5, false))), impl.OK)
	askCode(t, "a comb of 13", impl.TermsFault(comb(6, false)), impl.ErrMany)
	askCode(t, "a comb of 13 on the right", impl.TermsFault(comb(6, true)), impl.ErrMany)
	// Too many is asked ahead of all that one of them could have.
	for _, n := range []int{13, 14, 25, 1 << 16} {
		askCode(t, fmt.Sprint(n, " terms of no kind"), impl.TermsFault(make([]impl.Term, n)), impl.ErrMany)
	}
	for n := 2; n <= 12; n++ {
		askCode(t, fmt.Sprint(n, " trees"), impl.TermsFault(slices.Repeat(allTerm(), n)), impl.ErrForm)
	}
}

func TestKindsOfTerms(t *testing.T) {
	for _, kind := range []int64{math.MinInt64, -1, 0, 12, 13, 99, 1<<32 + 1, math.MaxInt64} {
		askCode(t, fmt.Sprint("kind ", kind), impl.TermsFault([]impl.Term{{Kind: kind}}), impl.ErrForm)
		askCode(t, fmt.Sprint("kind ", kind, " ahead"), impl.TermsFault([]impl.Term{{Kind: kind}, {Kind: impl.TermNot}}), impl.ErrForm)
		askCode(t, fmt.Sprint("kind ", kind, " behind"), impl.TermsFault([]impl.Term{{Kind: impl.TermAll}, {Kind: kind}}), impl.ErrForm)
	}
	bare := map[int64]int64{
		impl.TermAll: impl.OK, impl.TermFlag: impl.ErrRange, impl.TermSince: impl.OK, impl.TermBefore: impl.OK, impl.TermLarger: impl.OK,
		impl.TermSubject: impl.ErrRange, impl.TermBody: impl.ErrRange, impl.TermUid: impl.ErrMany, impl.TermNot: impl.ErrForm, impl.TermAnd: impl.ErrForm, impl.TermOr: impl.ErrForm,
	}
	for kind, want := range bare {
		askCode(t, fmt.Sprint("nothing but kind ", kind), impl.TermsFault([]impl.Term{{Kind: kind}}), want)
	}
}

// withThing gives a term one thing more.
func withThing(term impl.Term, thing string, n int64) impl.Term {
	switch thing {
	case "Num":
		term.Num = n
	case "Codes":
		term.Codes = []int64{n}
	case "Ranges":
		term.Ranges = set(n, n)
	case "Left":
		term.Left = n
	case "Right":
		term.Right = n
	}
	return term
}

func TestTermsThatHaveWhatTheirKindHasNot(t *testing.T) {
	good := map[int64][]impl.Term{
		impl.TermAll: allTerm(), impl.TermFlag: flagTerm(4), impl.TermSince: numTerm(impl.TermSince, 7), impl.TermBefore: numTerm(impl.TermBefore, 7), impl.TermLarger: numTerm(impl.TermLarger, 7),
		impl.TermSubject: subjectTerm("a"), impl.TermBody: bodyTerm("a"), impl.TermUid: uidTerm(set(1, 2)), impl.TermNot: notOf(allTerm()), impl.TermAnd: andOf(allTerm(), allTerm()), impl.TermOr: orOf(allTerm(), allTerm()),
	}
	for kind, terms := range good {
		askCode(t, fmt.Sprint("kind ", kind), impl.TermsFault(terms), impl.OK)
		last := len(terms) - 1
		for _, thing := range []string{"Num", "Codes", "Ranges", "Left", "Right"} {
			if slices.Contains(thingsOfTerms[kind], thing) {
				continue
			}
			for _, n := range []int64{1, 2, 4, 33, 97, 999, -1, 1000, math.MinInt64, math.MaxInt64, int64(last), int64(last) - 1} {
				wrong := movedTerms(terms, 0)
				wrong[last] = withThing(wrong[last], thing, n)
				isNothing := n == 0 && thing != "Codes" && thing != "Ranges"
				want := int64(impl.ErrForm)
				if isNothing {
					want = impl.OK
				}
				askCode(t, fmt.Sprint("kind ", kind, " with ", thing, " ", n), impl.TermsFault(wrong), want)
				askCode(t, fmt.Sprint("a not of kind ", kind, " with ", thing, " ", n), impl.TermsFault(notOf(wrong)), want)
			}
		}
		// Lists of nothing are the same as none.
		empty := movedTerms(terms, 0)
		if len(empty[last].Codes) == 0 {
			empty[last].Codes = []int64{}
		}
		if len(empty[last].Ranges) == 0 {
			empty[last].Ranges = []impl.Range{}
		}
		askCode(t, fmt.Sprint("kind ", kind, " with lists of nothing"), impl.TermsFault(empty), impl.OK)
	}
}

func TestNumbersOfTerms(t *testing.T) {
	numbers := []int64{math.MinInt64, math.MinInt64 + 1, -9999, -8, -4, -2, -1, 399, 400, 401, 9998, 9999, 10000, 10001, 1 << 32, 1<<32 + 1, 1<<32 + 8, math.MaxInt64}
	for n := range int64(40) {
		numbers = append(numbers, n)
	}
	for _, n := range numbers {
		for kind, isRight := range map[int64]bool{
			impl.TermFlag: n == 1 || n == 2 || n == 4 || n == 8, impl.TermSince: n >= 0 && n <= 9999, impl.TermBefore: n >= 0 && n <= 9999, impl.TermLarger: n >= 0 && n <= 400,
		} {
			want := int64(impl.ErrRange)
			if isRight {
				want = impl.OK
			}
			askCode(t, fmt.Sprint("kind ", kind, " of ", n), impl.TermsFault(numTerm(kind, n)), want)
			askCode(t, fmt.Sprint("a not of kind ", kind, " of ", n), impl.TermsFault(notOf(numTerm(kind, n))), want)
		}
	}
}

func TestCharactersOfTerms(t *testing.T) {
	for _, kind := range []int64{impl.TermSubject, impl.TermBody} {
		for _, n := range []int{0, 1, 2, 19, 20, 21, 22, 400, 401, 1 << 16} {
			want := int64(impl.ErrRange)
			if n >= 1 && n <= 20 {
				want = impl.OK
			}
			for _, c := range []int64{'a', 33, 65535} {
				askCode(t, fmt.Sprint(n, " characters ", c), impl.TermsFault([]impl.Term{{Kind: kind, Codes: times(n, c)}}), want)
			}
		}
		askCode(t, "an empty list of them", impl.TermsFault([]impl.Term{{Kind: kind, Codes: []int64{}}}), impl.ErrRange)
		for c := int64(-3); c <= 70000; c++ {
			want := int64(impl.OK)
			if c < 33 || c == 127 || c >= 0xd800 && c <= 0xdfff || c > 0xffff {
				want = impl.ErrRange
			}
			askCode(t, fmt.Sprint("character ", c), impl.TermsFault([]impl.Term{{Kind: kind, Codes: []int64{c}}}), want)
		}
		for _, c := range append([]int64{0, 9, 10, 31, 32, 127}, noCharacters...) {
			for place := range 20 {
				codes := times(20, 'a')
				codes[place] = c
				askCode(t, fmt.Sprint("character ", c, " at ", place), impl.TermsFault([]impl.Term{{Kind: kind, Codes: codes}}), impl.ErrRange)
			}
		}
	}
}

func TestSetsOfTerms(t *testing.T) {
	for _, list := range setArguments() {
		askCode(t, fmt.Sprintf("%.80v", list), impl.TermsFault(uidTerm(list)), wantRangesFault(list))
		askCode(t, fmt.Sprintf("a not of %.80v", list), impl.TermsFault(notOf(uidTerm(list))), wantRangesFault(list))
	}
	askCode(t, "no range", impl.TermsFault([]impl.Term{{Kind: impl.TermUid, Ranges: []impl.Range{}}}), impl.ErrMany)
	askCode(t, "8 ranges", impl.TermsFault(uidTerm(ranges(8))), impl.OK)
	askCode(t, "9 ranges", impl.TermsFault(uidTerm(ranges(9))), impl.ErrMany)
	askCode(t, "1000", impl.TermsFault(uidTerm(set(1, 1000))), impl.ErrRange)
}

func TestPlacesByHand(t *testing.T) {
	all, not := impl.Term{Kind: impl.TermAll}, func(left int64) impl.Term { return impl.Term{Kind: impl.TermNot, Left: left} }
	and := func(left, right int64) impl.Term { return impl.Term{Kind: impl.TermAnd, Left: left, Right: right} }
	or := func(left, right int64) impl.Term { return impl.Term{Kind: impl.TermOr, Left: left, Right: right} }
	for i, by := range []struct {
		terms []impl.Term
		want  int64
	}{
		{[]impl.Term{not(0)}, impl.ErrForm}, {[]impl.Term{not(-1)}, impl.ErrForm}, {[]impl.Term{not(1)}, impl.ErrForm},
		{[]impl.Term{and(0, 0)}, impl.ErrForm}, {[]impl.Term{and(-2, -1)}, impl.ErrForm}, {[]impl.Term{or(-1, 0)}, impl.ErrForm}, {[]impl.Term{or(0, -1)}, impl.ErrForm},
		{[]impl.Term{all, not(0)}, impl.OK}, {[]impl.Term{all, not(1)}, impl.ErrForm}, {[]impl.Term{all, not(-1)}, impl.ErrForm}, {[]impl.Term{all, not(2)}, impl.ErrForm},
		{[]impl.Term{all, and(0, 0)}, impl.ErrForm}, {[]impl.Term{all, and(-1, 0)}, impl.ErrForm}, {[]impl.Term{all, or(0, 1)}, impl.ErrForm},
		{[]impl.Term{all, all, and(0, 1)}, impl.OK}, {[]impl.Term{all, all, or(0, 1)}, impl.OK}, {[]impl.Term{all, all, and(1, 0)}, impl.ErrForm}, {[]impl.Term{all, all, and(1, 1)}, impl.ErrForm}, {[]impl.Term{all, all, or(0, 0)}, impl.ErrForm}, {[]impl.Term{all, all, or(0, 2)}, impl.ErrForm}, {[]impl.Term{all, all, or(2, 1)}, impl.ErrForm},
		{[]impl.Term{all, all, not(1)}, impl.ErrForm}, {[]impl.Term{all, all, not(0)}, impl.ErrForm},
		{[]impl.Term{all, not(0), and(0, 1)}, impl.ErrForm}, {[]impl.Term{all, not(0), and(-1, 1)}, impl.ErrForm}, {[]impl.Term{all, not(0), not(1)}, impl.OK}, {[]impl.Term{all, not(0), not(0)}, impl.ErrForm},
		{[]impl.Term{all, all, not(1), and(0, 2)}, impl.OK}, {[]impl.Term{all, all, not(1), and(1, 2)}, impl.ErrForm}, {[]impl.Term{all, not(0), all, or(1, 2)}, impl.OK}, {[]impl.Term{all, not(0), all, or(0, 2)}, impl.ErrForm},
		{[]impl.Term{all, all, all, or(1, 2), and(0, 3)}, impl.OK}, {[]impl.Term{all, all, all, or(1, 2), and(2, 3)}, impl.ErrForm}, {[]impl.Term{all, all, and(0, 1), all, or(2, 3)}, impl.OK}, {[]impl.Term{all, all, and(0, 1), all, or(1, 3)}, impl.ErrForm},
		{[]impl.Term{all, all, all, or(1, 2)}, impl.ErrForm}, {[]impl.Term{all, all, all, or(0, 2)}, impl.ErrForm}, {[]impl.Term{all, not(0), all}, impl.ErrForm}, {[]impl.Term{all, all, and(0, 1), all}, impl.ErrForm},
		{[]impl.Term{all, all, and(0, 1), all, all, or(3, 4)}, impl.ErrForm}, {[]impl.Term{all, all, and(0, 1), all, all, or(3, 4), or(2, 5)}, impl.OK},
		{[]impl.Term{all, and(math.MinInt64, 0)}, impl.ErrForm}, {[]impl.Term{all, all, and(math.MaxInt64, 1)}, impl.ErrForm}, {[]impl.Term{all, all, and(0, math.MinInt64)}, impl.ErrForm}, {[]impl.Term{all, not(math.MinInt64)}, impl.ErrForm}, {[]impl.Term{all, not(math.MaxInt64)}, impl.ErrForm}, {[]impl.Term{all, not(1 << 32)}, impl.ErrForm},
	} {
		askCode(t, fmt.Sprint(i, " ", by.terms), impl.TermsFault(by.terms), by.want)
		askTermsFault(t, by.terms)
	}
}

func TestOtherPlacesOfWhatATermIsOf(t *testing.T) {
	places := append(numbersFrom(-3, 14), math.MinInt64, math.MinInt64+1, math.MaxInt64-1, math.MaxInt64, 1<<32, 1<<32+1, -1<<32)
	for _, terms := range somePrograms() {
		for at := range terms {
			for _, left := range places {
				other := movedTerms(terms, 0)
				other[at].Left = left
				askTermsFault(t, other)
				other[at].Left, other[at].Right = terms[at].Left, left
				askTermsFault(t, other)
			}
		}
	}
}

// eachTerms calls ask with all lists of n terms, each one of some.
func eachTerms(some []impl.Term, n int, ask func(terms []impl.Term)) {
	terms := make([]impl.Term, n)
	var fill func(at int)
	fill = func(at int) {
		if at == n {
			ask(terms)
			return
		}
		for _, term := range some {
			terms[at] = term
			fill(at + 1)
		}
	}
	fill(0)
}

func TestAllShortListsOfTerms(t *testing.T) {
	some := []impl.Term{{Kind: impl.TermAll}}
	for left := int64(-1); left <= 3; left++ {
		some = append(some, impl.Term{Kind: impl.TermNot, Left: left})
		for right := int64(-1); right <= 3; right++ {
			some = append(some, impl.Term{Kind: impl.TermOr, Left: left, Right: right})
		}
	}
	// So many trees of not and or there are with just so many terms.
	for n, want := range []int{0, 1, 1, 2, 4} {
		found := 0
		eachTerms(some, n, func(terms []impl.Term) {
			if askTermsFault(t, terms) == impl.OK {
				found++
			}
		})
		if found != want {
			t.Errorf("%d programs of %d terms, want %d", found, n, want)
		}
	}
}

// faultyTerms are programs with a fault, of each kind of it.
func faultyTerms() [][]impl.Term {
	list := [][]impl.Term{
		nil, {}, chain(13), comb(6, false), make([]impl.Term, 12), make([]impl.Term, 1<<12), slices.Repeat(allTerm(), 2), slices.Repeat(allTerm(), 12), append(chain(3), allTerm()...), append(allTerm(), chain(3)...),
		{{Kind: 0}}, {{Kind: 12}}, {{Kind: -1}}, {{Kind: math.MinInt64}}, {{Kind: math.MaxInt64}}, {{Kind: impl.TermAll, Num: 1}}, {{Kind: impl.TermAll, Left: -1}}, {{Kind: impl.TermAll, Codes: []int64{'a'}}}, {{Kind: impl.TermAll, Ranges: set(1, 1)}},
		{{Kind: impl.TermNot}}, {{Kind: impl.TermNot, Left: -1}}, {{Kind: impl.TermAnd, Left: -2, Right: -1}}, {{Kind: impl.TermOr, Left: math.MinInt64, Right: math.MaxInt64}}, append(allTerm(), impl.Term{Kind: impl.TermNot, Left: math.MaxInt64}), append(allTerm(), impl.Term{Kind: impl.TermNot, Left: 0, Right: 1}),
		subjectTerm(""), subjectTerm(" "), bodyTerm("a\x7f"), bodyTerm(strings.Repeat("a", 21)), {{Kind: impl.TermBody, Codes: noCharacters}}, {{Kind: impl.TermSubject, Codes: times(1<<16, 'a')}},
	}
	for _, flag := range []int64{-1, 0, 3, 5, 15, 16, math.MinInt64} {
		list = append(list, flagTerm(flag))
	}
	for _, kind := range []int64{impl.TermSince, impl.TermBefore, impl.TermLarger} {
		list = append(list, numTerm(kind, -1), numTerm(kind, 10000), numTerm(kind, math.MaxInt64))
	}
	list = append(list, numTerm(impl.TermLarger, 401))
	for _, wrong := range []([]impl.Range){nil, ranges(9), set(1000, 1), set(1, -1)} {
		list = append(list, uidTerm(wrong), andOf(uidTerm(wrong), allTerm()), orOf(allTerm(), notOf(uidTerm(wrong))))
	}
	return list
}

func TestFaultyTermsHaveAFault(t *testing.T) {
	for _, terms := range faultyTerms() {
		if askTermsFault(t, terms) == impl.OK {
			t.Errorf("%.80v has no fault", terms)
		}
	}
}

func TestWhichFaultComesFirst(t *testing.T) {
	not := func(left int64) impl.Term { return impl.Term{Kind: impl.TermNot, Left: left} }
	one := func(terms []impl.Term) impl.Term { return terms[0] }
	for i, by := range []struct {
		terms []impl.Term
		want  int64
	}{
		// Of one term: what its kind has not, its numbers, its set.
		{[]impl.Term{{Kind: impl.TermFlag, Num: 16, Left: 1}}, impl.ErrForm},
		{[]impl.Term{{Kind: impl.TermSubject, Num: 1}}, impl.ErrForm},
		{[]impl.Term{{Kind: impl.TermUid, Codes: []int64{1}}}, impl.ErrForm},
		{[]impl.Term{{Kind: impl.TermUid, Ranges: set(1000, 1), Right: 5}}, impl.ErrForm},
		{[]impl.Term{{Kind: impl.TermUid, Ranges: append(ranges(8), set(1000, 1)...)}}, impl.ErrMany},
		// Of two: all of the first one is asked ahead of the second.
		{[]impl.Term{one(flagTerm(16)), {Kind: 0}}, impl.ErrRange}, {[]impl.Term{{Kind: 0}, one(flagTerm(16))}, impl.ErrForm},
		{[]impl.Term{one(uidTerm(nil)), one(flagTerm(16))}, impl.ErrMany}, {[]impl.Term{one(flagTerm(16)), one(uidTerm(nil))}, impl.ErrRange},
		{[]impl.Term{one(uidTerm(nil)), {Kind: 12}}, impl.ErrMany}, {[]impl.Term{{Kind: 12}, one(uidTerm(nil))}, impl.ErrForm},
		{[]impl.Term{not(0), one(flagTerm(16))}, impl.ErrForm}, {[]impl.Term{one(flagTerm(16)), not(5)}, impl.ErrRange},
		{[]impl.Term{not(-1), one(uidTerm(nil))}, impl.ErrForm}, {[]impl.Term{one(uidTerm(nil)), not(-1)}, impl.ErrMany},
		// That the last one has not all others in it is asked behind all of them.
		{[]impl.Term{one(allTerm()), one(flagTerm(16))}, impl.ErrRange}, {[]impl.Term{one(allTerm()), one(uidTerm(nil))}, impl.ErrMany}, {[]impl.Term{one(allTerm()), one(allTerm()), not(1), one(subjectTerm(""))}, impl.ErrRange},
	} {
		askCode(t, fmt.Sprint(i, " ", by.terms), impl.TermsFault(by.terms), by.want)
		askTermsFault(t, by.terms)
	}
	// Each two of some terms, one behind the other, and one more.
	some := []impl.Term{{Kind: 0}, {Kind: impl.TermAll, Num: 1}, one(flagTerm(16)), one(subjectTerm(" ")), one(uidTerm(nil)), one(uidTerm(set(1000, 1))), not(0), not(1), one(allTerm()), {Kind: impl.TermAnd, Left: 0, Right: 1}}
	codes := map[int64]int{}
	for n := 1; n <= 4; n++ {
		eachTerms(some, n, func(terms []impl.Term) { codes[askTermsFault(t, terms)]++ })
	}
	for _, code := range []int64{impl.OK, impl.ErrForm, impl.ErrRange, impl.ErrMany} {
		if codes[code] == 0 {
			t.Errorf("no list has the code %d", code)
		}
	}
}

// otherTerms are not the same as wholeTerms, each by one thing.
func otherTerms() map[string][]impl.Term {
	others := map[string][]impl.Term{"nothing": nil, "the first alone": wholeTerms()[:1], "one more": append(wholeTerms(), impl.Term{}), "all but the first": wholeTerms()[1:]}
	for what, turn := range map[string]func(term *impl.Term){
		"Kind": func(term *impl.Term) { term.Kind++ }, "Num": func(term *impl.Term) { term.Num = -term.Num },
		"a code": func(term *impl.Term) { term.Codes[1]++ }, "a code less": func(term *impl.Term) { term.Codes = term.Codes[:1] }, "a code more": func(term *impl.Term) { term.Codes = append(term.Codes, 0) }, "no codes": func(term *impl.Term) { term.Codes = nil },
		"From": func(term *impl.Term) { term.Ranges[0].From++ }, "To": func(term *impl.Term) { term.Ranges[1].To++ }, "a range less": func(term *impl.Term) { term.Ranges = term.Ranges[:1] }, "a range more": func(term *impl.Term) { term.Ranges = append(term.Ranges, impl.Range{}) }, "no ranges": func(term *impl.Term) { term.Ranges = nil },
		"Left": func(term *impl.Term) { term.Left++ }, "Right": func(term *impl.Term) { term.Right = 0 }, "both turned": func(term *impl.Term) { term.Left, term.Right = term.Right, term.Left },
	} {
		for at := range wholeTerms() {
			other := wholeTerms()
			turn(&other[at])
			others[fmt.Sprint(what, " of ", at)] = other
		}
	}
	return others
}

// wholeTerms have all that terms can have, more than one kind has.
func wholeTerms() []impl.Term {
	return []impl.Term{
		{Kind: 7, Num: 5, Codes: []int64{1, 2}, Ranges: set(1, 2, 3, 4), Left: 6, Right: 7},
		{Kind: 1, Num: -1, Codes: []int64{2, 1}, Ranges: set(3, 4, 1, 2), Left: -5, Right: 9},
	}
}

func TestSameTerms(t *testing.T) {
	askBool(t, "themselves", impl.SameTerms(wholeTerms(), wholeTerms()), true)
	for what, other := range otherTerms() {
		askBool(t, what, impl.SameTerms(wholeTerms(), other), false)
		askBool(t, what, impl.SameTerms(other, wholeTerms()), false)
		askBool(t, what, impl.SameTerms(other, movedTerms(other, 0)), true)
	}
	turned := wholeTerms()
	slices.Reverse(turned)
	askBool(t, "in another order", impl.SameTerms(wholeTerms(), turned), false)
	programs := slices.Concat(somePrograms(), faultyTerms())
	var texts []string
	for _, terms := range programs {
		texts = append(texts, fmt.Sprint(terms))
	}
	for i, a := range programs {
		for k, b := range programs {
			askBool(t, fmt.Sprint(i, " and ", k), impl.SameTerms(a, b), texts[i] == texts[k])
		}
	}
}

func TestTermsOfNothingAreTheSameAsNil(t *testing.T) {
	askBool(t, "no term", impl.SameTerms(nil, []impl.Term{}), true)
	askBool(t, "nothing", impl.SameTerms(nil, nil), true)
	askBool(t, "a term of nothing", impl.SameTerms(nil, []impl.Term{{}}), false)
	empty := []impl.Term{{Kind: 1, Codes: []int64{}, Ranges: []impl.Range{}}}
	askBool(t, "lists of nothing", impl.SameTerms(empty, allTerm()), true)
	askBool(t, "lists of nothing", impl.SameTerms(allTerm(), empty), true)
}
