package tests

import (
	"encoding/base64"
	"math"
	"regexp"
	"slices"
	"strconv"
	"strings"
	"testing"
	"unicode/utf8"

	"loop.example/g00447/impl"
)

func askWords(t *testing.T, value, want string) {
	t.Helper()
	askCodes(t, strconv.Quote(value), impl.DecodeWords(value), impl.OK, codesOf(want))
}

func TestToldWordsOfEachCharset(t *testing.T) {
	for _, c := range []struct{ charset, base, quoted, text string }{
		{"us-ascii", "YSA/", "a_=3F", "a ?"},
		{"US-ASCII", "AH8=", "=00=7F", "\x00\x7f"},
		{"iso-8859-1", "YeT/", "a=E4=FF", "aäÿ"},
		{"Iso-8859-1", "gKA=", "=80=A0", "\u0080\u00a0"},
		{"iso-8859-5", "1vD9", "=D6=F0=FD", "ж№§"},
		{"ISO-8859-5", "YQ==", "a", "a"},
		{"utf-8", "YcOk4oKs", "a=C3=A4=E2=82=AC", "aä€"},
		{"uTf-8", "77+/", "=EF=BF=BF", "\uffff"},
		{"utf-16", "BDYAYSCs", "=046=00a=20=AC", "жa€"},
		{"UTF-16", "/v8AAA==", "=FE=FF=00=00", "\ufeff\x00"},
	} {
		for _, letter := range []string{"B", "b"} {
			askWords(t, "=?"+c.charset+"?"+letter+"?"+c.base+"?=", c.text)
		}
		for _, letter := range []string{"Q", "q"} {
			askWords(t, "=?"+c.charset+"?"+letter+"?"+c.quoted+"?=", c.text)
		}
		// Nothing is told by no letters, in whatever charset.
		for _, letter := range []string{"B", "b", "Q", "q"} {
			askWords(t, "=?"+c.charset+"?"+letter+"??=", "")
		}
	}
}

func TestLettersOfQuotedWords(t *testing.T) {
	askWords(t, "=?us-ascii?Q?_?=", " ")
	askWords(t, "=?us-ascii?Q?__a_?=", "  a ")
	askWords(t, "=?us-ascii?Q?=5F=20=3D=3F?=", "_ =?")
	for one := range 256 {
		b := string([]byte{byte(one)})
		digits := strings.ToUpper(strconv.FormatInt(int64(one)+256, 16)[1:])
		askWords(t, "=?iso-8859-1?Q?a="+digits+"b?=", "a"+string(rune(one))+"b")
		value := "=?us-ascii?Q?" + b + "a?="
		switch {
		case b == "_":
			askWords(t, value, " a")
		case one > 32 && one < 127 && b != "=" && b != "?":
			askWords(t, value, b+"a")
		case one < 128:
			askWords(t, value, value)
		default:
			askWords(t, value, "=?us-ascii?Q?\ufffda?=")
		}
	}
}

func TestWordsThatFollowOneAnother(t *testing.T) {
	const a, b, nothing = "=?utf-8?Q?a?=", "=?utf-8?B?Yg==?=", "=?utf-8?Q??="
	for _, c := range []struct{ value, want string }{
		{a, "a"},
		{a + b, "ab"},
		{a + " " + b, "ab"},
		{a + "\t" + b, "ab"},
		{a + " \t  \t" + b, "ab"},
		{a + " " + b + "  " + a, "aba"},
		{a + strings.Repeat(" ", 300) + b, "ab"},
		// something else between them
		{a + "x" + b, "axb"},
		{a + " x" + b, "a xb"},
		{a + "x " + b, "ax b"},
		{a + " x " + b, "a x b"},
		{a + "  \tx\t " + b, "a  \tx\t b"},
		{a + " \n " + b, "a \n b"},
		{a + "\r" + b, "a\rb"},
		{a + "\u00a0" + b, "a\u00a0b"},
		{a + " \xff " + b, "a \ufffd b"},
		{a + " =?= " + b, "a =?= b"},
		{a + " =?bad?Q?a?= " + b, "a =?bad?Q?a?= b"},
		// ahead of the first one and behind the last one
		{" " + a, " a"},
		{"\t " + a, "\t a"},
		{a + " ", "a "},
		{a + " \t", "a \t"},
		{"  " + a + " " + b + "  ", "  ab  "},
		{"x " + a + " y", "x a y"},
		{"x" + a + "y", "xay"},
		{a + " y " + b + " z", "a y b z"},
		// a word that tells blanks, and one that tells nothing, are words
		{"=?utf-8?Q?_?= " + a, " a"},
		{a + " =?utf-8?Q?_?= " + b, "a b"},
		{nothing, ""},
		{nothing + " " + nothing, ""},
		{" " + nothing + " ", "  "},
		{a + " " + nothing + " " + b, "ab"},
		{"x " + nothing + " y", "x  y"},
		{nothing + " " + a, "a"},
		// what is told is not read once more
		{"=?utf-8?Q?=3D=3Futf-8=3FQ=3Fa=3F=3D?=", a},
		{"=?utf-8?Q?=3D?=?utf-8?Q?a?=", "=?utf-8?Q?a?="},
		{"==?utf-8?Q?a?=", "=a"},
		{"=?=?utf-8?Q?a?=", "=?a"},
		{"=?utf-8?Q?=?utf-8?Q?a?=", "=?utf-8?Q?a"},
		{"=?utf-8?Q?a?==", "a="},
		{"=?utf-8?Q?a?=?=", "a?="},
		{"=?utf-8?Q?a?=?utf-8?Q?b?=", "a?utf-8?Q?b?="},
	} {
		askWords(t, c.value, c.want)
	}
}

func TestWhatIsNoToldWord(t *testing.T) {
	for _, value := range []string{
		"", " ", "\t", "a", "=", "?", "=?", "?=", "=?=", "=??=", "=???=", "=????=", "=?????=",
		// a name of no charset
		"=?bad?Q?a?=", "=??Q?a?=", "=?utf-7?Q?a?=", "=? utf-8?Q?a?=", "=?utf-8 ?Q?a?=", "=?utf-8*en?Q?a?=", "=?4?Q?a?=",
		// no B, b, Q or q
		"=?utf-8??a?=", "=?utf-8?X?a?=", "=?utf-8?BQ?YQ==?=", "=?utf-8?QQ?a?=", "=?utf-8? Q?a?=", "=?utf-8?Q ?a?=", "=?utf-8?P?a?=", "=?utf-8?C?YQ==?=",
		// letters that tell no bytes
		"=?utf-8?B?YQ?=", "=?utf-8?B?YQ=?=", "=?utf-8?B?YR==?=", "=?utf-8?B?a?=", "=?utf-8?B?=?=", "=?utf-8?B?====?=", "=?utf-8?B?YQ== ?=", "=?utf-8?B?Y Q==?=", "=?utf-8?B?_w==?=", "=?utf-8?B?-w==?=",
		"=?utf-8?Q?=?=", "=?utf-8?Q?=4?=", "=?utf-8?Q?=G0?=", "=?utf-8?Q?=0G?=", "=?utf-8?Q?=c3=a4?=", "=?utf-8?Q?=C3=a4?=", "=?utf-8?Q?=4a?=", "=?utf-8?Q?==41?=", "=?utf-8?Q?=_41?=", "=?utf-8?Q?=4_1?=", "=?utf-8?Q?a b?=", "=?utf-8?Q? ?=", "=?utf-8?Q?a\tb?=", "=?utf-8?Q?a\nb?=", "=?utf-8?Q?a=\nb?=", "=?utf-8?Q?=\n?=", "=?utf-8?Q?\n?=", "=?utf-8?Q?\x7f?=", "=?utf-8?Q?\x1f?=", "=?utf-8?Q?ä?=",
		// bytes that are no text of the charset
		"=?us-ascii?Q?=80?=", "=?us-ascii?B?gA==?=", "=?utf-8?Q?=C3?=", "=?utf-8?Q?=C3a?=", "=?utf-8?Q?=A4?=", "=?utf-8?Q?=C0=80?=", "=?utf-8?Q?=ED=A0=80?=", "=?utf-8?Q?=F0=9F=98=80?=", "=?utf-8?B?/w==?=", "=?utf-16?Q?a?=", "=?utf-16?Q?abc?=", "=?utf-16?Q?=D8=00?=", "=?utf-16?B?2AA=?=",
		// no end, or parts of one
		"=?utf-8", "=?utf-8?", "=?utf-8?Q", "=?utf-8?Q?", "=?utf-8?Q?a", "=?utf-8?Q?a?", "=?utf-8?Q?a=", "=?utf-8?Q?a? =", "=?utf-8?Q?a??", "=?utf-8?B?YQ==", "=?utf-8?B?YQ==?",
		// a `?` too many
		"=?utf-8?Q??a?=", "=?utf-8?Q?a??=", "=?utf-8?Q?a?b?=", "=?utf-8??Q?a?=", "=??utf-8?Q?a?=", "=?utf-8?B?YQ==??=", "?=utf-8?Q?a?=", "= ?utf-8?Q?a?=",
		// no beginning
		"?utf-8?Q?a?=", "utf-8?Q?a?=",
	} {
		askWords(t, value, value)
		askWords(t, "x "+value+" y", "x "+value+" y")
		// One behind such a beginning is read all the same, unless it ends it.
		if !strings.HasSuffix(value, "=") && !strings.HasSuffix(value, "?") {
			askWords(t, value+" =?utf-8?Q?z?=", value+" z")
		}
	}
}

func TestCharactersAsTheyStand(t *testing.T) {
	const no = "\ufffd"
	for _, c := range []struct{ value, want string }{
		{"aä€ж\uffff", "aä€ж\uffff"},
		{"\x00\x1f\x7f\n", "\x00\x1f\x7f\n"},
		{"\ufffd", "\ufffd"},
		// each byte of what is no character by itself
		{"\x80", no},
		{"\xff\xfe", no + no},
		{"a\xe4b", "a" + no + "b"},
		{"\xa4\xc3", no + no},
		{"\xc0\x80", no + no},
		{"\xe0\x80\x80", no + no + no},
		{"\xed\xa0\x80", no + no + no},
		{"\xf0\x9f\x98\x80", no + no + no + no},
		{"a\xf0\x9f\x98\x80b", "a" + no + no + no + no + "b"},
		// halves of a character: at the end, ahead of a letter, ahead of a whole one
		{"\xc3", no},
		{"\xe2", no},
		{"\xe2\x82", no + no},
		{"a\xe2\x82", "a" + no + no},
		{"\xe2\x82a", no + no + "a"},
		{"\xc3\xc3\xa4", no + "ä"},
		{"\xe2\x82\xc3\xa4", no + no + "ä"},
		{"\xe2\xe2\x82\xac", no + "€"},
		// a told word behind a half, and halves on both sides of one
		{"\xc3=?utf-8?Q?=A4?=", no + "=?utf-8?Q?=A4?="},
		{"\xc3=?utf-8?Q?a?=\xa4", no + "a" + no},
	} {
		askWords(t, c.value, c.want)
	}
	for one := 128; one < 256; one++ {
		askWords(t, string([]byte{byte(one)}), no)
		askWords(t, string([]byte{byte(one), 'a'}), no+"a")
	}
}

func TestDecodeWordsBounds(t *testing.T) {
	full := strings.Repeat("a", impl.MaxBytes)
	word := "=?us-ascii?Q?" + strings.Repeat("a", impl.MaxBytes-15) + "?="
	for _, c := range []struct{ value, want string }{
		{full, full},
		{strings.Repeat("\xff", impl.MaxBytes), strings.Repeat("\ufffd", impl.MaxBytes)},
		{strings.Repeat("ä", impl.MaxBytes/2), strings.Repeat("ä", impl.MaxBytes/2)},
		{strings.Repeat(" ", impl.MaxBytes), strings.Repeat(" ", impl.MaxBytes)},
		{strings.Repeat("=?", impl.MaxBytes/2), strings.Repeat("=?", impl.MaxBytes/2)},
		{word, strings.Repeat("a", impl.MaxBytes-15)},
	} {
		askWords(t, c.value, c.want)
		askCodes(t, "one more byte", impl.DecodeWords(c.value+"a"), impl.ErrMany, nil)
	}
	for _, value := range []string{"a", "\xff", " ", "=?utf-8?Q??="} {
		askCodes(t, "far more of "+strconv.Quote(value), impl.DecodeWords(strings.Repeat(value, 1<<12)), impl.ErrMany, nil)
	}
}

// The marks stand around what a told word tells; no value that is asked has them in it.
const wordOpens, wordEnds = "\ue000", "\ue001"

var wordForm = regexp.MustCompile(`\A=\?([^?]*)\?([BbQq])\?([^?]*)\?=`)
var wordLetters = regexp.MustCompile(`\A(?:[!-<>-~]|=[0-9A-F]{2})*\z`)
var wordGap = regexp.MustCompile(wordEnds + `[ \t]*` + wordOpens)

// wantTold reads the told word at the beginning by its form as a whole.
func wantTold(rest string) (text string, size int) {
	found := wordForm.FindStringSubmatch(rest)
	if found == nil {
		return "", 0
	}
	cs := int64(slices.Index([]string{"us-ascii", "iso-8859-1", "iso-8859-5", "utf-8", "utf-16"}, strings.ToLower(found[1])) + 1)
	data, code := wantBase(found[3])
	if found[2] == "Q" || found[2] == "q" {
		data, code = wantQuoted(strings.ReplaceAll(found[3], "_", "=20"))
		if !wordLetters.MatchString(found[3]) {
			code = impl.ErrCode
		}
	}
	if cs == 0 || code != impl.OK {
		return "", 0
	}
	codes, code := wantCodes(cs, []byte(data))
	if code != impl.OK {
		return "", 0
	}
	for _, c := range codes {
		text += string(rune(c))
	}
	return text, len(found[0])
}

// wantWords marks all told words first, and takes away what is between them as a whole.
func wantWords(value string) string {
	var marked strings.Builder
	for rest := value; rest != ""; {
		if text, size := wantTold(rest); size > 0 {
			marked.WriteString(wordOpens + text + wordEnds)
			rest = rest[size:]
			continue
		}
		r, size := utf8.DecodeRuneInString(rest)
		if r > 65535 {
			r, size = utf8.RuneError, 1
		}
		marked.WriteRune(r)
		rest = rest[size:]
	}
	return strings.NewReplacer(wordOpens, "", wordEnds, "").Replace(wordGap.ReplaceAllString(marked.String(), ""))
}

func TestDecodeWordsReadsOnlyItsForm(t *testing.T) {
	pieces := []string{"=?utf-8?Q?a?=", "=?US-ASCII?b?Yg==?=", "=?iso-8859-5?q?_=D6?=", "=?utf-8?B??=", "=?bad?Q?a?=", "=?utf-8?Q?=c3?=", "=?", "?=", " ", "\t", "x", "\xc3", "\xa4", "=?utf-8?Q?"}
	values := []string{""}
	for range 4 {
		var longer []string
		for _, value := range values {
			for _, piece := range pieces {
				longer = append(longer, value+piece)
			}
		}
		for _, value := range longer {
			askWords(t, value, wantWords(value))
		}
		values = longer
	}
	eachText("=?Bq\xc3\xa4 ", 5, func(text string) { askWords(t, text, wantWords(text)) })
}

func TestEachByteOfAToldWordCounts(t *testing.T) {
	for _, value := range []string{"=?utf-8?Q?a=C3=A4_?=", "=?iso-8859-1?b?YeT/?=", "=?us-ascii?q?a?= =?utf-16?B?AGE=?=", "x =?utf-8?B?w6Q=?= y"} {
		for at := range len(value) {
			askWords(t, value[:at], wantWords(value[:at]))
			askWords(t, value[at:], wantWords(value[at:]))
			short := value[:at] + value[at+1:]
			askWords(t, short, wantWords(short))
			for one := range 256 {
				b := string([]byte{byte(one)})
				for _, other := range []string{value[:at] + b + value[at+1:], value[:at] + b + value[at:]} {
					askWords(t, other, wantWords(other))
				}
			}
		}
	}
}

func TestEncodeWords(t *testing.T) {
	for _, c := range []struct{ text, want string }{
		{"", ""},
		{"a ", "a "},
		{" ", " "},
		{"  a  b ", "  a  b "},
		{"~", "~"},
		{"=", "="},
		{"?", "?"},
		{"?=", "?="},
		{"= ?", "= ?"},
		{"a=b?c", "a=b?c"},
		{"=?", "=?utf-8?B?PT8=?="},
		{"a=?b", "=?utf-8?B?YT0/Yg==?="},
		{"==?", "=?utf-8?B?PT0/?="},
		{"=?utf-8?Q?a?=", "=?utf-8?B?PT91dGYtOD9RP2E/PQ==?="},
		{"ä", "=?utf-8?B?w6Q=?="},
		{"a ä b", "=?utf-8?B?YSDDpCBi?="},
		{"€", "=?utf-8?B?4oKs?="},
		{"\uffff", "=?utf-8?B?77+/?="},
		{"\x1f", "=?utf-8?B?Hw==?="},
		{"a\x1f", "=?utf-8?B?YR8=?="},
		{"\x7f", "=?utf-8?B?fw==?="},
		{"\t", "=?utf-8?B?CQ==?="},
		{"\n", "=?utf-8?B?Cg==?="},
		{"\x00", "=?utf-8?B?AA==?="},
		{"\ufffd", "=?utf-8?B?77+9?="},
	} {
		askText(t, strconv.Quote(c.text), impl.EncodeWords(codesOf(c.text)), impl.OK, c.want)
	}
	var plain []int64
	for c := int64(32); c <= 126; c++ {
		plain = append(plain, c)
		askText(t, strconv.FormatInt(c, 10), impl.EncodeWords([]int64{c}), impl.OK, string(rune(c)))
	}
	told := impl.EncodeWords(plain)
	if told.Code != impl.OK || !slices.Equal(codesOf(told.Text), plain) {
		t.Errorf("all of 32 to 126: code %d, %q", told.Code, told.Text)
	}
	askText(t, "an empty list", impl.EncodeWords([]int64{}), impl.OK, "")
}

func TestEncodeWordsBounds(t *testing.T) {
	// One word has room for 388 digits: those of 291 bytes.
	long := func(n int, c int64) string {
		return "=?utf-8?B?" + base64.StdEncoding.EncodeToString([]byte(strings.Repeat(string(rune(c)), n))) + "?="
	}
	for _, c := range []struct {
		what  string
		codes []int64
		code  int64
		text  string
	}{
		{"MaxBytes that stand as they are", times(400, 'a'), impl.OK, strings.Repeat("a", 400)},
		{"MaxBytes blanks", times(400, ' '), impl.OK, strings.Repeat(" ", 400)},
		{"one more", times(401, 'a'), impl.ErrMany, ""},
		{"far more", times(1<<16, 'a'), impl.ErrMany, ""},
		{"291 bytes of one each", times(291, 127), impl.OK, long(291, 127)},
		{"292 bytes of one each", times(292, 127), impl.ErrMany, ""},
		{"400 bytes of one each", times(400, 127), impl.ErrMany, ""},
		{"290 bytes of two each", times(145, 228), impl.OK, long(145, 228)},
		{"292 bytes of two each", times(146, 228), impl.ErrMany, ""},
		{"291 bytes of three each", times(97, 8364), impl.OK, long(97, 8364)},
		{"294 bytes of three each", times(98, 8364), impl.ErrMany, ""},
		{"400 bytes of two each", times(200, 228), impl.ErrMany, ""},
		{"402 bytes of two each", times(201, 228), impl.ErrMany, ""},
		{"1200 bytes of three each", times(400, 65535), impl.ErrMany, ""},
		{"400 with `=?` at the end", append(times(398, 'a'), '=', '?'), impl.ErrMany, ""},
		{"291 with `=?` at the end", append(times(289, 'a'), '=', '?'), impl.OK, "=?utf-8?B?" + base64.StdEncoding.EncodeToString([]byte(strings.Repeat("a", 289)+"=?")) + "?="},
		{"400 with `?=` at the end", append(times(398, 'a'), '?', '='), impl.OK, strings.Repeat("a", 398) + "?="},
		// Which code comes first.
		{"too many that are none", times(401, -1), impl.ErrMany, ""},
		{"MaxBytes, the last one none", append(times(399, 'a'), 65536), impl.ErrRange, ""},
		{"too many bytes of utf-8, the last one none", append(times(399, 65535), 55296), impl.ErrRange, ""},
		{"too long a word, the last one none", append(times(300, 228), -1), impl.ErrRange, ""},
		{"the first one none", []int64{math.MinInt64, 'a'}, impl.ErrRange, ""},
	} {
		askText(t, c.what, impl.EncodeWords(c.codes), c.code, c.text)
	}
	for _, c := range noCharacters {
		askText(t, strconv.FormatInt(c, 10), impl.EncodeWords([]int64{'a', c}), impl.ErrRange, "")
	}
}

// askReadBack asks of one text that words tell it, that these are plain, and that they are read back.
func askReadBack(t *testing.T, codes []int64) {
	t.Helper()
	told := impl.EncodeWords(codes)
	if told.Code != impl.OK || !impl.IsPlain([]byte(told.Text)) {
		t.Errorf("%v: code %d, %q", codes, told.Code, told.Text)
		return
	}
	askCodes(t, told.Text, impl.DecodeWords(told.Text), impl.OK, codes)
}

func TestCharactersAreReadBackFromWords(t *testing.T) {
	for c := range int64(65536) {
		if !isSurrogate(c) {
			askReadBack(t, []int64{c})
		}
	}
	for _, codes := range textsOf([]int64{'=', '?', 'Q', ' ', '\t', 31, 127, 228}, 4) {
		askReadBack(t, codes)
	}
	for _, codes := range textsOf([]int64{'=', '?', ' '}, 8) {
		askReadBack(t, codes)
	}
	for n := range 292 {
		askReadBack(t, times(n, 'a'))
		askReadBack(t, times(n, 31))
		askReadBack(t, times(n/2, 228))
		askReadBack(t, times(n/3, 8364))
	}
	for _, text := range []string{"=?utf-8?Q?a?=", "=?utf-8?B?w6Q=?= =?utf-8?B?w6Q=?=", "x =?bad?Q?a?=", "=?utf-8?Q?\x00?=", "\ufffd\ufeff\uffff"} {
		askReadBack(t, codesOf(text))
	}
}

func TestWordsStandInAHeader(t *testing.T) {
	for _, text := range []string{"", "a", "ä", "a ä жё", "=?", " a ", "\n", "€€€"} {
		told := impl.EncodeWords(codesOf(text))
		packed := impl.PackHeader(field("Subject", told.Text))
		value := impl.FieldOf(impl.ParseHeader(packed.Bytes).Fields, "subject")
		askWords(t, value.Text, text)
		if !impl.IsPlain(packed.Bytes) {
			t.Errorf("%q: a header that is not plain", text)
		}
	}
}
