package tests

import (
	"encoding/base64"
	"math"
	"regexp"
	"strconv"
	"strings"
	"testing"

	"loop.example/g00447/impl"
)

func wantSubject(data string) (codes []int64, code int64) {
	if len(data) > impl.MaxBytes {
		return nil, impl.ErrMany
	}
	fields, _, code := wantHeader(data)
	if code != impl.OK {
		return nil, code
	}
	for _, f := range fields {
		if smallAscii(f.Name) == "subject" {
			return codesOf(wantWords(f.Value)), impl.OK
		}
	}
	return nil, impl.ErrNone
}

var blankRun = regexp.MustCompile(`[\x00-\x20]+`)

// wantPreview makes blanks of all runs first, and cuts the text then.
func wantPreview(data string) (codes []int64, code int64) {
	if len(data) > impl.MaxBytes {
		return nil, impl.ErrMany
	}
	for place := range wantParts(data) {
		codes, code := wantText(data, int64(place))
		if code != impl.OK {
			continue
		}
		var text string
		for _, c := range codes {
			text += string(rune(c))
		}
		first := codesOf(strings.TrimPrefix(blankRun.ReplaceAllString(text, " "), " "))
		return first[:min(len(first), 20)], impl.OK
	}
	return nil, impl.ErrNone
}

// askSeen asks for all that is seen of a whole message.
func askSeen(t *testing.T, data string) {
	t.Helper()
	what := strconv.Quote(data)
	codes, code := wantSubject(data)
	askCodes(t, "subject of "+what, impl.SubjectOf([]byte(data)), code, codes)
	codes, code = wantPreview(data)
	askCodes(t, "preview of "+what, impl.PreviewOf([]byte(data)), code, codes)
	told, code := wantLegacy(data)
	askBytes(t, "legacy of "+what, impl.LegacyOf([]byte(data)), code, told)
	askLegacy(t, data)
}

func TestSeenOfMessages(t *testing.T) {
	for _, text := range append(someMessages(), viewMessages()...) {
		askSeen(t, text)
	}
	for _, data := range tooLong() {
		askCodes(t, "too long", impl.SubjectOf(data), impl.ErrMany, nil)
		askCodes(t, "too long", impl.PreviewOf(data), impl.ErrMany, nil)
		askBytes(t, "too long", impl.LegacyOf(data), impl.ErrMany, "")
	}
}

func TestSubjectOf(t *testing.T) {
	const a, b = "=?utf-8?Q?=C3=A4?=", "=?iso-8859-5?B?1g==?="
	for _, c := range []struct {
		data string
		code int64
		want string
	}{
		{"Subject: a b\n\nbody", impl.OK, "a b"}, {"Subject:a", impl.OK, "a"}, {"Subject:  a ", impl.OK, " a "}, {"A: b\nSUBJECT: c\n\n", impl.OK, "c"}, {"subject: a\nSubject: b\n\n", impl.OK, "a"}, {"Subject: a\n b\n c\n\n", impl.OK, "a b c"},
		// nothing in it, also ahead of one that has something
		{"Subject:", impl.OK, ""}, {"Subject: \n\n", impl.OK, ""}, {"Subject:\nSubject: a\n\n", impl.OK, ""},
		// told words, blanks between them, and more than these
		{"Subject: " + a + "\n\n", impl.OK, "ä"}, {"Subject: " + a + b, impl.OK, "äж"}, {"Subject: " + a + " " + b, impl.OK, "äж"}, {"Subject: " + a + "   " + b + "\n\n", impl.OK, "äж"}, {"Subject: " + a + "\n " + b + "\n\n", impl.OK, "äж"}, {"Subject: " + a + " x " + b, impl.OK, "ä x ж"}, {"Subject: " + a + " ", impl.OK, "ä "},
		// bytes above 127
		{"Subject: \xc3\xa4\n\n", impl.OK, "ä"}, {"Subject: \xe4\n\n", impl.OK, "\ufffd"}, {"Subject: \xe2\x82\xac\xe2\x82", impl.OK, "€\ufffd\ufffd"}, {"Subject: " + a + " \xc3\xa4", impl.OK, "ä ä"},
		// a charset that nobody knows, letters that tell nothing
		{"Subject: =?utf-7?Q?a?=", impl.OK, "=?utf-7?Q?a?="}, {"Subject: " + a + " =?x?B?YQ==?= " + b, impl.OK, "ä =?x?B?YQ==?= ж"}, {"Subject: =?utf-8?B?Y?=", impl.OK, "=?utf-8?B?Y?="},
		{"Subject: " + strings.Repeat("\xff", 120) + "\n\n", impl.OK, strings.Repeat("\ufffd", 120)},
		// no such field
		{"", impl.ErrNone, ""}, {"\n", impl.ErrNone, ""}, {"A: b\n\n", impl.ErrNone, ""}, {"Subjects: b\nSubjec: c\n\n", impl.ErrNone, ""}, {"\nSubject: a\n\n", impl.ErrNone, ""}, {"A: b\n\nSubject: a", impl.ErrNone, ""}, {"A: b\n Subject: a\n\n", impl.ErrNone, ""}, {multi("b", "Subject: a\n\nb"), impl.ErrNone, ""},
		// a fault, ahead of whatever the field tells
		{"wrong", impl.ErrForm, ""}, {" Subject: a", impl.ErrForm, ""}, {"Subject: a\nwrong\n\n", impl.ErrForm, ""}, {"Subject: a\n\tb", impl.ErrForm, ""}, {"Subject : a", impl.ErrForm, ""}, {"Subject: " + strings.Repeat("a", 121), impl.ErrForm, ""}, {"Subject: a\n" + strings.Repeat("A:\n", 8), impl.ErrForm, ""}, {"Subject: \x7f", impl.ErrForm, ""}, {"A: b\nwrong", impl.ErrForm, ""},
	} {
		askCodes(t, strconv.Quote(c.data), impl.SubjectOf([]byte(c.data)), c.code, codesOf(c.want))
		askSeen(t, c.data)
	}
	full := "Subject: a\n\n" + strings.Repeat("x", impl.MaxBytes-12)
	askCodes(t, "400 bytes", impl.SubjectOf([]byte(full)), impl.OK, codesOf("a"))
	askCodes(t, "401 bytes", impl.SubjectOf([]byte(full+"x")), impl.ErrMany, nil)
	askCodes(t, "401 bytes, and a fault", impl.SubjectOf([]byte(strings.Repeat("x", 401))), impl.ErrMany, nil)
}

func TestPreviewsOfTexts(t *testing.T) {
	for _, c := range []struct{ body, want string }{
		{"", ""}, {"a", "a"}, {"ab", "ab"}, {"a b", "a b"},
		// at the beginning, several behind one another, at the end, these alone
		{" a", "a"}, {"\n\t \x00a", "a"}, {"a  b", "a b"}, {"a\nb", "a b"}, {"a \r\n\t b", "a b"}, {"a\x00b\x1fc", "a b c"}, {"a ", "a "}, {"a\n", "a "}, {"a \n\n ", "a "}, {" ", ""}, {"\n", ""}, {"\x00\x1f \t\n", ""}, {strings.Repeat(" ", 300), ""}, {strings.Repeat("\n", 300) + "a" + strings.Repeat("\n", 60), "a "},
		// those above 32 stand
		{"!", "!"}, {"\x7f", "\x7f"}, {"a\x7f b", "a\x7f b"}, {"!  !", "! !"},
		// 19, 20 and 21 characters
		{strings.Repeat("a", 19), strings.Repeat("a", 19)}, {strings.Repeat("a", 20), strings.Repeat("a", 20)}, {strings.Repeat("a", 21), strings.Repeat("a", 20)}, {strings.Repeat("a", 340), strings.Repeat("a", 20)}, {" " + strings.Repeat("a", 20) + "b", strings.Repeat("a", 20)},
		// the 20th one a blank, the 21st one
		{strings.Repeat("a", 19) + " b", strings.Repeat("a", 19) + " "}, {strings.Repeat("a", 19) + "\n\n\nb", strings.Repeat("a", 19) + " "}, {strings.Repeat("a", 19) + "\n", strings.Repeat("a", 19) + " "}, {strings.Repeat("a", 18) + "  b  c", strings.Repeat("a", 18) + " b"}, {strings.Repeat("a", 20) + " b", strings.Repeat("a", 20)}, {strings.Repeat("a", 18) + " bc", strings.Repeat("a", 18) + " b"},
		{strings.Repeat("a\n \n", 30), strings.Repeat("a ", 10)}, {strings.Repeat("\na", 30), strings.Repeat("a ", 10)},
	} {
		for _, message := range []string{"\n" + c.body, textOf("", "", c.body), textOf("utf-8", "quoted-printable", impl.EncodeQuoted([]byte(c.body)).Text)} {
			if len(message) <= impl.MaxBytes {
				askCodes(t, strconv.Quote(message), impl.PreviewOf([]byte(message)), impl.OK, codesOf(c.want))
			}
		}
	}
	for one := range 256 {
		body := []byte{'a', byte(one), byte(one), 'b', byte(one)}
		want := []int64{'a', int64(one), int64(one), 'b', int64(one)}
		if one <= 32 {
			want = []int64{'a', ' ', 'b', ' '}
		}
		message := textOf("iso-8859-1", "", string(body))
		askCodes(t, strconv.Quote(message), impl.PreviewOf([]byte(message)), impl.OK, want)
	}
	eachText("a! \n\x00", 6, func(text string) {
		codes, code := wantPreview("\n" + text)
		askCodes(t, strconv.Quote(text), impl.PreviewOf([]byte("\n"+text)), code, codes)
	})
	// Characters are counted, not bytes.
	long := textOf("utf-8", "", strings.Repeat("€ ", 30))
	askCodes(t, "three bytes each", impl.PreviewOf([]byte(long)), impl.OK, times(10, 8364, ' '))
	wide := textOf("utf-16", "base64", base64.StdEncoding.EncodeToString([]byte("\x00\n\x046\x00 \x00\x00\x20\x20\x00\x21")))
	askCodes(t, "two bytes each", impl.PreviewOf([]byte(wide)), impl.OK, []int64{1078, ' ', 8224, '!'})
}

func TestPreviewsOfParts(t *testing.T) {
	const other = "Content-Type: image/x\n\nx"
	wrong, unknown, chars := textOf("utf-8", "base64", "Y"), textOf("utf-7", "", "a"), textOf("", "", "\xe4")
	for _, c := range []struct {
		data string
		code int64
		want string
	}{
		{"", impl.OK, ""}, {"\n", impl.OK, ""}, {"A: b", impl.OK, ""},
		{multi("b", "\none", "\ntwo"), impl.OK, "one"},
		// the first one cannot be seen, for whatever reason, the second one can
		{multi("b", other, "\ntwo"), impl.OK, "two"}, {multi("b", wrong, "\ntwo"), impl.OK, "two"}, {multi("b", unknown, "\ntwo"), impl.OK, "two"}, {multi("b", chars, "\ntwo"), impl.OK, "two"}, {multi("b", "no header", "\ntwo"), impl.OK, "two"}, {multi("b", multi("c"), "\ntwo"), impl.OK, "two"},
		{multi("b", multi("c", other, "\none"), "\ntwo"), impl.OK, "one"}, {multi("b", multi("c", other, wrong), "\ntwo"), impl.OK, "two"}, {multi("b", wrong, other, unknown, "\nfour", "\nfive"), impl.OK, "four"},
		// one of nothing can be seen
		{multi("b", "", "\ntwo"), impl.OK, ""}, {multi("b", "\n \n", "\ntwo"), impl.OK, ""}, {multi("b", other, textOf("utf-8", "base64", "\n"), "\nthree"), impl.OK, ""},
		// none can
		{"wrong", impl.ErrNone, ""}, {other, impl.ErrNone, ""}, {wrong, impl.ErrNone, ""}, {unknown, impl.ErrNone, ""}, {chars, impl.ErrNone, ""}, {multi("b"), impl.ErrNone, ""}, {multi("b", other), impl.ErrNone, ""}, {multi("b", wrong, unknown, chars), impl.ErrNone, ""}, {multi("b", multi("c", other), multi("d")), impl.ErrNone, ""}, {"Content-Type: multipart/x\n\n\nx", impl.ErrNone, ""},
		// the 9th part is none
		{head("b") + strings.Repeat("--b\nx\n", 7) + "--b\n\ntext", impl.ErrNone, ""}, {head("b") + strings.Repeat("--b\nx\n", 6) + "--b\n\ntext", impl.OK, "text"},
	} {
		askCodes(t, strconv.Quote(c.data), impl.PreviewOf([]byte(c.data)), c.code, codesOf(c.want))
		askSeen(t, c.data)
	}
	full := "\n" + strings.Repeat("x", impl.MaxBytes-1)
	askCodes(t, "400 bytes", impl.PreviewOf([]byte(full)), impl.OK, times(20, 'x'))
	askCodes(t, "401 bytes", impl.PreviewOf([]byte(full+"x")), impl.ErrMany, nil)
	askCodes(t, "401 bytes of which none can be seen", impl.PreviewOf([]byte(strings.Repeat("x", 401))), impl.ErrMany, nil)
}

func TestSliceOf(t *testing.T) {
	bounds := []int64{0, 1, 2, 6, 7, 8, 199, 398, 399, 400}
	for _, size := range []int{0, 1, 7, 399, 400} {
		data := someBytes(size)
		for _, from := range bounds {
			for _, n := range bounds {
				first := min(int(from), size)
				want := string(data[first:min(first+int(n), size)])
				askBytes(t, strconv.Itoa(size), impl.SliceOf(data, from, n), impl.OK, want)
			}
		}
		for _, wrong := range []int64{math.MinInt64, -400, -1, 401, 402, 1 << 32, 1<<32 + 1, math.MaxInt64} {
			for _, right := range []int64{0, 1, 400, wrong} {
				askBytes(t, "from", impl.SliceOf(data, wrong, right), impl.ErrRange, "")
				askBytes(t, "n", impl.SliceOf(data, right, wrong), impl.ErrRange, "")
			}
		}
	}
	for _, n := range []int{401, 402, 1 << 16} {
		for _, from := range []int64{math.MinInt64, -1, 0, 400, 401, math.MaxInt64} {
			askBytes(t, "too many bytes", impl.SliceOf(someBytes(n), from, 1), impl.ErrMany, "")
			askBytes(t, "too many bytes", impl.SliceOf(someBytes(n), 0, from), impl.ErrMany, "")
		}
	}
	askBytes(t, "nil", impl.SliceOf(nil, 0, 0), impl.OK, "")
	askBytes(t, "the last byte", impl.SliceOf([]byte("abc"), 2, 400), impl.OK, "c")
	askBytes(t, "behind the end", impl.SliceOf([]byte("abc"), 3, 1), impl.OK, "")
	askBytes(t, "far behind the end", impl.SliceOf([]byte("abc"), 400, 400), impl.OK, "")
}

func TestSlicesThatFollowOneAnotherMakeTheWhole(t *testing.T) {
	for _, size := range []int{0, 1, 2, 59, 60, 61, 397, 399, 400} {
		data := someBytes(size)
		for n := int64(1); n <= impl.MaxBytes; n++ {
			var whole []byte
			for from := int64(0); from <= impl.MaxBytes; from += n {
				slice := impl.SliceOf(data, from, n)
				if slice.Code != impl.OK || int64(len(slice.Bytes)) > n {
					t.Fatalf("%d bytes from %d on: code %d, %d bytes", n, from, slice.Code, len(slice.Bytes))
				}
				whole = append(whole, slice.Bytes...)
			}
			if string(whole) != string(data) {
				t.Errorf("slices of %d make %q, want %q", n, whole, data)
			}
		}
		for cut := range int64(size + 1) {
			first, second := impl.SliceOf(data, 0, cut), impl.SliceOf(data, cut, impl.MaxBytes)
			if string(first.Bytes)+string(second.Bytes) != string(data) {
				t.Errorf("%d bytes, cut at %d, are not whole", size, cut)
			}
		}
	}
}
