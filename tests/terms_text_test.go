package tests

import (
	"fmt"
	"math/rand"
	"regexp"
	"slices"
	"strconv"
	"strings"
	"testing"
	"unicode/utf8"

	"loop.example/g00447/impl"
)

func askTerms(t *testing.T, what string, got impl.TermsResult, code int64, terms []impl.Term) {
	t.Helper()
	if got.Code != code || fmt.Sprint(got.Terms) != fmt.Sprint(terms) {
		t.Errorf("%s: got code %d %v, want code %d %v", what, got.Code, got.Terms, code, terms)
	}
}

// charsOf are characters in utf-8, as the library tells them.
func charsOf(codes []int64) string {
	var text strings.Builder
	for _, c := range codes {
		text.WriteRune(rune(c))
	}
	return text.String()
}

// wantTermsText takes texts from the end of a list and puts longer ones there, term by term.
func wantTermsText(terms []impl.Term) string {
	var texts []string
	for _, term := range terms {
		text, count := "all", 0
		switch term.Kind {
		case impl.TermFlag:
			text = "flag " + map[int64]string{1: "seen", 2: "answered", 4: "flagged", 8: "deleted"}[term.Num]
		case impl.TermSince:
			text = fmt.Sprint("since ", term.Num)
		case impl.TermBefore:
			text = fmt.Sprint("before ", term.Num)
		case impl.TermLarger:
			text = fmt.Sprint("larger ", term.Num)
		case impl.TermSubject:
			text = "subject " + charsOf(term.Codes)
		case impl.TermBody:
			text = "body " + charsOf(term.Codes)
		case impl.TermUid:
			text = "uid " + wantSetText(term.Ranges)
		case impl.TermNot:
			text, count = "not", 1
		case impl.TermAnd:
			text, count = "and", 2
		case impl.TermOr:
			text, count = "or", 2
		}
		from := len(texts) - count
		texts = append(texts[:from], strings.Join(append([]string{text}, texts[from:]...), " "))
	}
	return texts[0]
}

// A piece of a text is a term without what it is of, and the blank behind it.
var termPiece = regexp.MustCompile(`\A(?:(all)|(flag) (seen|answered|flagged|deleted)|(since|before) (0|[1-9][0-9]{0,3})|(larger) (0|[1-9][0-9]?|[1-3][0-9][0-9]|400)|(subject|body) ([^ ]+)|(uid) ([^ ]+)|(not|and|or)) `)

var termKinds = map[string]int64{"all": 1, "flag": 2, "since": 3, "before": 4, "larger": 5, "subject": 6, "body": 7, "uid": 8, "not": 9, "and": 10, "or": 11}

// wantPiece reads a piece; how many terms it is of is told beside it.
func wantPiece(piece []string) (term impl.Term, count int, ok bool) {
	words := slices.DeleteFunc(slices.Clone(piece[1:]), func(word string) bool { return word == "" })
	term.Kind = termKinds[words[0]]
	switch words[0] {
	case "flag":
		term.Num = map[string]int64{"seen": 1, "answered": 2, "flagged": 4, "deleted": 8}[words[1]]
	case "since", "before", "larger":
		term.Num, _ = strconv.ParseInt(words[1], 10, 64)
	case "subject", "body":
		term.Codes = codesOf(words[1])
		if !utf8.ValidString(words[1]) || isWrongNum(term) {
			return impl.Term{}, 0, false
		}
	case "uid":
		list, code := wantSet(words[1])
		if code != impl.OK {
			return impl.Term{}, 0, false
		}
		term.Ranges = list
	case "not":
		count = 1
	case "and", "or":
		count = 2
	}
	return term, count, true
}

// wantTerms cuts a text into pieces first, and puts them together from the last one on.
func wantTerms(text string) (terms []impl.Term, code int64) {
	type read struct {
		term  impl.Term
		count int
	}
	var pieces []read
	missing := 1
	for rest := text + " "; rest != ""; {
		found := termPiece.FindStringSubmatch(rest)
		if found == nil || missing == 0 || len(pieces) == 12 {
			return nil, impl.ErrText
		}
		term, count, ok := wantPiece(found)
		if !ok {
			return nil, impl.ErrText
		}
		pieces = append(pieces, read{term, count})
		missing += count - 1
		rest = rest[len(found[0]):]
	}
	if missing != 0 {
		return nil, impl.ErrText
	}
	var programs [][]impl.Term
	for _, piece := range slices.Backward(pieces) {
		last := len(programs) - piece.count
		made := []impl.Term{piece.term}
		switch piece.count {
		case 1:
			made = notOf(programs[last])
		case 2:
			made = twoOf(piece.term.Kind, programs[last+1], programs[last])
		}
		programs = append(programs[:last], made)
	}
	return programs[0], impl.OK
}

// termsByHand are written out, each with its text.
var termsByHand = []struct {
	text  string
	terms []impl.Term
}{
	{"all", []impl.Term{{Kind: 1}}},
	{"flag seen", []impl.Term{{Kind: 2, Num: 1}}}, {"flag answered", []impl.Term{{Kind: 2, Num: 2}}}, {"flag flagged", []impl.Term{{Kind: 2, Num: 4}}}, {"flag deleted", []impl.Term{{Kind: 2, Num: 8}}},
	{"since 0", []impl.Term{{Kind: 3}}}, {"since 9999", []impl.Term{{Kind: 3, Num: 9999}}}, {"before 0", []impl.Term{{Kind: 4}}}, {"before 10", []impl.Term{{Kind: 4, Num: 10}}}, {"larger 0", []impl.Term{{Kind: 5}}}, {"larger 400", []impl.Term{{Kind: 5, Num: 400}}},
	{"subject a", []impl.Term{{Kind: 6, Codes: []int64{97}}}}, {"subject \xc3\xa4", []impl.Term{{Kind: 6, Codes: []int64{228}}}}, {"body !~", []impl.Term{{Kind: 7, Codes: []int64{33, 126}}}}, {"body \xe2\x82\xac\xef\xbf\xbf", []impl.Term{{Kind: 7, Codes: []int64{8364, 65535}}}},
	{"subject \xc2\x80\xed\x9f\xbf\xee\x80\x80", []impl.Term{{Kind: 6, Codes: []int64{128, 55295, 57344}}}}, {"body \xc2\xa0", []impl.Term{{Kind: 7, Codes: []int64{160}}}},
	{"subject abcdefghijklmnopqrst", []impl.Term{{Kind: 6, Codes: []int64{97, 98, 99, 100, 101, 102, 103, 104, 105, 106, 107, 108, 109, 110, 111, 112, 113, 114, 115, 116}}}},
	{"uid *", []impl.Term{{Kind: 8, Ranges: set(0, 0)}}}, {"uid 2:*,1,7:5", []impl.Term{{Kind: 8, Ranges: set(2, 0, 1, 1, 7, 5)}}},
	// The words of what is looked for may be words that tell terms.
	{"subject all", []impl.Term{{Kind: 6, Codes: []int64{97, 108, 108}}}}, {"and body not subject or", []impl.Term{{Kind: 7, Codes: []int64{110, 111, 116}}, {Kind: 6, Codes: []int64{111, 114}}, {Kind: 10, Left: 0, Right: 1}}}, {"not subject subject", []impl.Term{{Kind: 6, Codes: []int64{115, 117, 98, 106, 101, 99, 116}}, {Kind: 9}}},
	{"not all", []impl.Term{{Kind: 1}, {Kind: 9, Left: 0}}}, {"not not all", []impl.Term{{Kind: 1}, {Kind: 9, Left: 0}, {Kind: 9, Left: 1}}},
	{"and all flag seen", []impl.Term{{Kind: 1}, {Kind: 2, Num: 1}, {Kind: 10, Left: 0, Right: 1}}}, {"or flag seen all", []impl.Term{{Kind: 2, Num: 1}, {Kind: 1}, {Kind: 11, Left: 0, Right: 1}}},
	{"and or all all all", []impl.Term{{Kind: 1}, {Kind: 1}, {Kind: 11, Left: 0, Right: 1}, {Kind: 1}, {Kind: 10, Left: 2, Right: 3}}}, {"and all or all all", []impl.Term{{Kind: 1}, {Kind: 1}, {Kind: 1}, {Kind: 11, Left: 1, Right: 2}, {Kind: 10, Left: 0, Right: 3}}},
	{"or not since 7 and all before 8", []impl.Term{{Kind: 3, Num: 7}, {Kind: 9, Left: 0}, {Kind: 1}, {Kind: 4, Num: 8}, {Kind: 10, Left: 2, Right: 3}, {Kind: 11, Left: 1, Right: 4}}},
	{"and subject \xc3\xa4 not or flag seen before 5", []impl.Term{{Kind: 6, Codes: []int64{228}}, {Kind: 2, Num: 1}, {Kind: 4, Num: 5}, {Kind: 11, Left: 1, Right: 2}, {Kind: 9, Left: 3}, {Kind: 10, Left: 0, Right: 4}}},
	{"not not not not not not not not not not not all", []impl.Term{{Kind: 1}, {Kind: 9, Left: 0}, {Kind: 9, Left: 1}, {Kind: 9, Left: 2}, {Kind: 9, Left: 3}, {Kind: 9, Left: 4}, {Kind: 9, Left: 5}, {Kind: 9, Left: 6}, {Kind: 9, Left: 7}, {Kind: 9, Left: 8}, {Kind: 9, Left: 9}, {Kind: 9, Left: 10}}},
}

func TestTermsByHand(t *testing.T) {
	for _, by := range termsByHand {
		askText(t, by.text, impl.TermsText(by.terms), impl.OK, by.text)
		askTerms(t, by.text, impl.ParseTerms(by.text), impl.OK, by.terms)
	}
}

func TestTermsTextTellsTheFault(t *testing.T) {
	for _, terms := range faultyTerms() {
		askText(t, fmt.Sprintf("%.80v", terms), impl.TermsText(terms), wantTermsFault(terms), "")
	}
	askText(t, "nothing", impl.TermsText(nil), impl.ErrMany, "")
	askText(t, "13 terms", impl.TermsText(chain(13)), impl.ErrMany, "")
	askText(t, "two trees", impl.TermsText(slices.Repeat(allTerm(), 2)), impl.ErrForm, "")
	askText(t, "no flag", impl.TermsText(flagTerm(0)), impl.ErrRange, "")
	askText(t, "no set", impl.TermsText(notOf(uidTerm(nil))), impl.ErrMany, "")
}

// askReadBackTerms asks that a program without a fault has its text, and is read back from it.
func askReadBackTerms(t *testing.T, terms []impl.Term) {
	t.Helper()
	text := impl.TermsText(terms)
	askText(t, fmt.Sprint(terms), text, impl.OK, wantTermsText(terms))
	read := impl.ParseTerms(text.Text)
	askTerms(t, text.Text, read, impl.OK, terms)
	askBool(t, text.Text, impl.SameTerms(read.Terms, terms), true)
}

func TestTermsAreReadBackFromTheirTexts(t *testing.T) {
	for _, terms := range somePrograms() {
		askReadBackTerms(t, terms)
	}
	for n := range int64(10000) {
		askReadBackTerms(t, numTerm(impl.TermSince+n%2, n))
		if n <= 400 {
			askReadBackTerms(t, numTerm(impl.TermLarger, n))
		}
	}
	for c := int64(33); c <= 65535; c++ {
		if c != 127 && !isSurrogate(c) {
			askReadBackTerms(t, []impl.Term{{Kind: impl.TermSubject + c%2, Codes: []int64{c}}})
		}
	}
	draw := rand.New(rand.NewSource(2))
	for i := range 6000 {
		askReadBackTerms(t, anyProgram(draw, i%12+1))
	}
}

func TestDeepTrees(t *testing.T) {
	for n := 1; n <= 12; n++ {
		askReadBackTerms(t, chain(n))
	}
	askText(t, "on the left side", impl.TermsText(comb(3, false)), impl.OK, "and or and subject x flag seen since 1 body äää")
	askText(t, "on the right side", impl.TermsText(comb(3, true)), impl.OK, "and body äää or since 1 and flag seen subject x")
	long := strings.Repeat("or ", 5) + "flag deleted" + strings.Repeat(" subject "+strings.Repeat("\uffff", 20), 5)
	askAsTerms(t, long)
	askCode(t, "the longest text", impl.ParseTerms("not "+long).Code, impl.OK)
	askCode(t, "13 terms", impl.ParseTerms("not not "+long).Code, impl.ErrText)
}

// noTerms are texts that no program has.
func noTerms() []string {
	list := []string{
		"", " ", "  ", " all", "all ", "all  ", "  all", "not  all", " not all", "not all ", "and all  all", "and  all all", "flag  seen", "subject  a", "subject a ", "uid 1 ", " uid 1", "all\n", "\nall", "all\t", "not\tall", "not\nall", "not\x00all",
		"not", "and", "or", "not not", "and all", "or all", "and and all all", "and all not", "or not all", "and all and all", "flag", "since", "before", "larger", "subject", "body", "uid", "not flag", "and flag seen since", "or subject a body", "and all uid", "not subject",
		"flag ", "since ", "before ", "larger ", "subject ", "body ", "uid ", "not ", "and ", "and all ", "or all ",
		"all all", "not all all", "and all all all", "flag seen seen", "flag seen answered", "since 1 2", "subject a b", "uid 1 2", "uid 1, 2", "all not", "all flag seen", "or all all not",
		"al", "alls", "All", "ALL", "nothing", "none", "x", "0", "1", "*", "nota", "not x", "and x all", "and all x", "not Not all", "Flag seen", "OR all all", "flag-seen", "flag=seen", "subject:a", "not(all)", "(all)", "\"all\"",
		"since 00", "since 01", "since 007", "before 00", "larger 00", "larger 010", "since +1", "since -1", "since -0", "before +0", "before -5", "larger -1", "larger +1", "since 10000", "since 10001", "before 10000", "before 99999", "larger 401", "larger 1000", "larger 9999", "since 4294967296", "since 18446744073709551616", "larger 9223372036854775808", "since 1.0", "since 1e1", "since 0x1", "since 1_0", "since a", "since *", "before *", "larger *", "since 1a", "since a1", "since \xd9\xa1", "larger " + strings.Repeat("9", 400), "since " + strings.Repeat("0", 400) + "1",
		"flag none", "flag x", "flag Seen", "flag SEEN", "flag see", "flag seens", "flag seen,answered", "flag 1", "flag 0", "flag \\seen", "flag all", "flag flag",
		"uid 0", "uid 01", "uid 1000", "uid 1:1", "uid 1,", "uid ,1", "uid -1", "uid +1", "uid 1:", "uid x", "uid 1,2,3,4,5,6,7,8,9", "uid **", "uid all", "not uid 0", "uid *:*", "uid 1-2",
		"subject \x7f", "subject a\x7f", "body \x1f", "body a\tb", "body a\nb", "subject \x00", "subject \x01", "body abcdefghijklmnopqrstu", "subject " + strings.Repeat("\uffff", 21), "subject " + strings.Repeat("a", 400), "subject " + strings.Repeat("a", 401),
		"subject \xff", "subject \xc3", "subject a\xc3", "subject \xc3a", "subject \x80", "subject \xa4\xc3", "body \xc0\x80", "body \xc1\xa1", "body \xe0\x80\x80", "body \xe0\x9f\xbf", "body \xed\xa0\x80", "body \xed\xbf\xbf", "body \xf0\x90\x80\x80", "body \xf4\x8f\xbf\xbf", "body \xef\xbf", "body \xe2\x82", "not subject \xe4",
		strings.Repeat("not ", 12) + "all", strings.Repeat("not ", 13) + "all", strings.Repeat("and ", 6) + "all" + strings.Repeat(" all", 6), strings.Repeat("or all ", 6) + "all",
		strings.Repeat("not ", 12), strings.Repeat("not ", 11), strings.TrimSpace(strings.Repeat("not ", 12)), strings.Repeat("and ", 12) + "all",
	}
	for _, word := range []string{"not ", "and ", "or ", "all ", "and all ", "subject a ", " ", "x", "uid 1", "since 1 ", "\x00", "flag "} {
		list = append(list, strings.Repeat(word, 1<<16), strings.Repeat(word, 1<<16)+"all")
	}
	return append(list, strings.Repeat("and ", 1<<16)+strings.Repeat("all ", 1<<16)+"all", "subject "+strings.Repeat("a", 1<<20), "uid "+strings.Repeat("1,", 1<<16)+"1", "since "+strings.Repeat("1", 1<<20), strings.Repeat("z", 1<<20))
}

func TestTextsThatNoProgramHas(t *testing.T) {
	for _, text := range noTerms() {
		askTerms(t, fmt.Sprintf("%.60q", text), impl.ParseTerms(text), impl.ErrText, nil)
	}
}

// askAsTerms holds a text against the other reader; what is read has to be told so again. It answers if the text is read.
func askAsTerms(t *testing.T, text string) bool {
	t.Helper()
	terms, code := wantTerms(text)
	got := impl.ParseTerms(text)
	if got.Code != code || !impl.SameTerms(got.Terms, terms) {
		t.Errorf("%.200q: got code %d %v, want code %d %v", text, got.Code, got.Terms, code, terms)
	}
	if got.Code != impl.OK {
		return false
	}
	if told := impl.TermsText(got.Terms); told.Code != impl.OK || told.Text != text {
		t.Errorf("%q is told as %q, code %d", text, told.Text, told.Code)
	}
	return true
}

func TestTextsThatAreReadAreToldAsTerms(t *testing.T) {
	read := 0
	count := func(text string) {
		if askAsTerms(t, text) {
			read++
		}
	}
	words := []string{"all", "not", "or", "subject", "uid", "flag", "seen", "1", ""}
	eachWords(words, 5, count)
	eachWords([]string{"and", "not", "all"}, 8, count)
	eachWords([]string{"since", "larger", "body", "400", "401", "0", "10000", "\xc3\xa4", "\xc3"}, 3, count)
	eachText("al not", 5, count)
	for _, text := range noTerms() {
		askAsTerms(t, text)
	}
	if read < 400 {
		t.Errorf("only %d texts were programs", read)
	}
}

// eachWords calls ask with every text of 1 to most words, with one blank between them.
func eachWords(words []string, most int, ask func(text string)) {
	texts := words
	for range most {
		var longer []string
		for _, text := range texts {
			ask(text)
			for _, word := range words {
				longer = append(longer, text+" "+word)
			}
		}
		texts = longer
	}
}

func TestTextsOfTermsWithAnotherLetter(t *testing.T) {
	draw := rand.New(rand.NewSource(3))
	letters := "0123456789*:, +-aä\x00\n\x7f\xff\xc3\xa4 adlnort"
	read := 0
	for i := range 3000 {
		text := wantTermsText(anyProgram(draw, i%12+1))
		at := draw.Intn(len(text))
		letter := letters[draw.Intn(len(letters))]
		for _, other := range []string{text[:at] + string([]byte{letter}) + text[at+1:], text[:at] + string([]byte{letter}) + text[at:], text[:at] + text[at+1:], text[:at], text[at:], text + string([]byte{letter})} {
			if askAsTerms(t, other) {
				read++
			}
		}
	}
	if read < 1000 {
		t.Errorf("only %d texts were programs", read)
	}
}

func TestTextsOfTermsWithAWordMore(t *testing.T) {
	draw := rand.New(rand.NewSource(4))
	more := []string{"all", "not", "and", "or", "flag", "seen", "since", "1", "*", "", "subject", "body", "uid", "x"}
	read := 0
	for i := range 1500 {
		words := strings.Split(wantTermsText(anyProgram(draw, i%12+1)), " ")
		at := draw.Intn(len(words))
		word := more[draw.Intn(len(more))]
		for _, other := range [][]string{slices.Insert(slices.Clone(words), at, word), slices.Delete(slices.Clone(words), at, at+1), slices.Replace(slices.Clone(words), at, at+1, word), append(slices.Clone(words), word)} {
			if askAsTerms(t, strings.Join(other, " ")) {
				read++
			}
		}
	}
	if read < 200 {
		t.Errorf("only %d texts were programs", read)
	}
}
