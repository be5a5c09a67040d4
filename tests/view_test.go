package tests

import (
	"encoding/base64"
	"math"
	"slices"
	"strconv"
	"strings"
	"testing"

	"loop.example/g00447/impl"
)

// textOf is a message of one text; a charset or a coding that is empty is not told.
func textOf(charset, coding, body string) string {
	text := "Content-Type: text/plain"
	if charset != "" {
		text += "; charset=" + charset
	}
	if coding != "" {
		text += "\nContent-Transfer-Encoding: " + coding
	}
	return text + "\n\n" + body
}

// viewMessages are ordinary ones, edges and wrong ones of what is seen, none of them too long.
func viewMessages() []string {
	wrong, unknown := textOf("utf-8", "base64", "Y"), textOf("utf-7", "", "a")
	return []string{
		textOf("", "", "a"), textOf("iso-8859-1", "", "a\xe4"), textOf("iso-8859-5", "quoted-printable", "=D6  b\n"), textOf("utf-8", "base64", "\nw6\n\nQ=\n"), textOf("UTF-16", "BASE64", "BDYAYQ=="),
		textOf("us-ascii", "", "\xe4"), textOf("utf-8", "", "\xc3"), textOf("utf-16", "", "a"), textOf("utf-7", "base64", "!"), textOf("utf-7", "base64", "YQ=="), wrong, unknown,
		textOf("utf-8", "quoted-printable", "=C3=A4=\n a \n"), textOf("utf-8", "quoted-printable", "=c3"), textOf("", "base64", ""), textOf("", "base64", "\n\n"), textOf("", "quoted-printable", ""), textOf("utf-16", "", ""),
		textOf("utf-8", "base64", strings.Repeat("4oKs", 75)), textOf("iso-8859-1", "", strings.Repeat("\xe4", 340)), "Content-Type: image/x\nContent-Transfer-Encoding: base64\n\nYQ==", "Content-Type: image/x\nContent-Transfer-Encoding: base64\n\n!",
		"Subject: \xc3\xa4\n\nbody", "Subject: =?utf-8?Q?a?= =?bad?Q?b?= \xff", "subject:\nSubject: a\n\n", "Subject: " + strings.Repeat("\xff", 120) + "\n\n", "A: \xe4\nB: " + strings.Repeat("ä", 30) + "\n\n \t a\x00b\n\n",
		multi("b", wrong, unknown, textOf("utf-8", "base64", "w6Q=")), multi("b", wrong, multi("c", unknown, "\n a  b ")), multi("b", unknown, wrong, "Content-Type: image/x\n\n"),
	}
}

// wantView tells the bytes of a part by the other readers of parts, digits and quoted texts.
func wantView(data string, place int64) (body string, code int64) {
	if len(data) > impl.MaxBytes {
		return "", impl.ErrMany
	}
	parts := wantParts(data)
	if place < 0 || place >= int64(len(parts)) {
		return "", impl.ErrRange
	}
	part := parts[place]
	body = data[part.From:part.To]
	switch part.Coding {
	case impl.CodingBase:
		return wantBase(strings.Join(strings.Split(body, "\n"), ""))
	case impl.CodingQuoted:
		return wantQuoted(body)
	}
	return body, impl.OK
}

func wantText(data string, place int64) (codes []int64, code int64) {
	body, code := wantView(data, place)
	if code == impl.ErrMany || code == impl.ErrRange {
		return nil, code
	}
	part := wantParts(data)[place]
	switch {
	case part.Kind != impl.PartText:
		return nil, impl.ErrForm
	case code != impl.OK:
		return nil, code
	case part.Charset == 0:
		return nil, impl.ErrNone
	}
	return wantCodes(part.Charset, []byte(body))
}

func wantConverted(data string, place, cs int64) (converted string, code int64) {
	codes, code := wantText(data, place)
	if code != impl.OK {
		return "", code
	}
	if !slices.Contains(charsets, cs) {
		return "", impl.ErrNone
	}
	for _, c := range codes {
		told := wantBytes(cs, c)
		if told == nil {
			return "", impl.ErrChars
		}
		converted += string(told)
	}
	if len(converted) > impl.MaxBytes {
		return "", impl.ErrMany
	}
	return converted, impl.OK
}

// askView asks for all that is seen of a part.
func askView(t *testing.T, data string, place int64) {
	t.Helper()
	what := strconv.Quote(data) + " part " + strconv.FormatInt(place, 10)
	body, code := wantView(data, place)
	askBytes(t, what, impl.PartBytes([]byte(data), place), code, body)
	codes, code := wantText(data, place)
	askCodes(t, what, impl.PartCodes([]byte(data), place), code, codes)
	for _, cs := range charsetArguments() {
		converted, code := wantConverted(data, place, cs)
		got := impl.ConvertPart([]byte(data), place, cs)
		askBytes(t, what+" in "+strconv.FormatInt(cs, 10), got, code, converted)
		if got.Code == impl.OK {
			askCodes(t, what+", converted", impl.DecodeText(cs, got.Bytes), impl.OK, codes)
		}
	}
}

func TestBytesOfEachCoding(t *testing.T) {
	for _, c := range []struct {
		coding, body string
		code         int64
		want         string
	}{
		{"", "YQ==\n", impl.OK, "YQ==\n"}, {"", "=41 ", impl.OK, "=41 "}, {"", "", impl.OK, ""}, {"", "\n", impl.OK, "\n"}, {"", "\x00\xff", impl.OK, "\x00\xff"},
		{"7bit", "YQ==", impl.OK, "YQ=="}, {"x-base64", "!", impl.OK, "!"},
		{"base64", "YQ==", impl.OK, "a"}, {"BASE64", "YWJj", impl.OK, "abc"}, {"base64", "YWI=", impl.OK, "ab"},
		// line feeds at the beginning, between digits, at the end, alone, none
		{"base64", "\nYQ==", impl.OK, "a"}, {"base64", "\n\n\nYQ==", impl.OK, "a"}, {"base64", "Y\nQ==", impl.OK, "a"}, {"base64", "YQ\n\n=\n=", impl.OK, "a"}, {"base64", "YQ==\n", impl.OK, "a"}, {"base64", "YQ==\n\n\n", impl.OK, "a"}, {"base64", "\nY\nW\nJ\nj\n", impl.OK, "abc"},
		{"base64", "\n", impl.OK, ""}, {"base64", "\n\n\n\n", impl.OK, ""}, {"base64", "", impl.OK, ""},
		// digits that are wrong
		{"base64", "Y", impl.ErrCode, ""}, {"base64", "YQ", impl.ErrCode, ""}, {"base64", "YQ=", impl.ErrCode, ""}, {"base64", "YR==", impl.ErrCode, ""}, {"base64", "=", impl.ErrCode, ""}, {"base64", "YQ==YQ==", impl.ErrCode, ""}, {"base64", "!!!!", impl.ErrCode, ""},
		// no other bytes are left out
		{"base64", "YQ==\r\n", impl.ErrCode, ""}, {"base64", "YWJ j", impl.ErrCode, ""}, {"base64", " YWJj", impl.ErrCode, ""}, {"base64", "YWJj\t", impl.ErrCode, ""}, {"base64", "YWJj\x00", impl.ErrCode, ""}, {"base64", "\nY\n", impl.ErrCode, ""},
		{"quoted-printable", "=41", impl.OK, "A"}, {"Quoted-Printable", "a =3D b", impl.OK, "a = b"}, {"quoted-printable", "", impl.OK, ""},
		// line feeds stay, but for those behind `=`
		{"quoted-printable", "\n=41\n\nb\n", impl.OK, "\nA\n\nb\n"}, {"quoted-printable", "\n", impl.OK, "\n"}, {"quoted-printable", "=\n", impl.OK, ""}, {"quoted-printable", "a=\nb=\n", impl.OK, "ab"}, {"quoted-printable", "a =\nb", impl.OK, "a b"},
		{"quoted-printable", "=", impl.ErrCode, ""}, {"quoted-printable", "=4", impl.ErrCode, ""}, {"quoted-printable", "=c3", impl.ErrCode, ""}, {"quoted-printable", "a ", impl.ErrCode, ""}, {"quoted-printable", "a \nb", impl.ErrCode, ""}, {"quoted-printable", "a\t\n", impl.ErrCode, ""}, {"quoted-printable", "\xe4", impl.ErrCode, ""}, {"quoted-printable", "a\r\n", impl.ErrCode, ""}, {"quoted-printable", "=4\n1", impl.ErrCode, ""},
	} {
		what := c.coding + " " + strconv.Quote(c.body)
		alone := textOf("iso-8859-1", c.coding, c.body)
		askBytes(t, what, impl.PartBytes([]byte(alone), 0), c.code, c.want)
		askView(t, alone, 0)
		// What a part is counts for nothing here, nor where it is.
		other := "Content-Transfer-Encoding: " + c.coding + "\nContent-Type: image/x\n\n" + c.body
		askBytes(t, what+", no text", impl.PartBytes([]byte(other), 0), c.code, c.want)
		message := []byte(multi("mark", "\none", alone, other))
		askBytes(t, what+", in a message", impl.PartBytes(message, 2), c.code, c.want)
		askBytes(t, what+", at its end", impl.PartBytes(message, 3), c.code, c.want)
	}
	// Letters without a header that tells of them are none.
	askBytes(t, "no header", impl.PartBytes([]byte("YQ=="), 0), impl.OK, "YQ==")
	askBytes(t, "nothing", impl.PartBytes(nil, 0), impl.OK, "")
	// A whole of several parts may have a coding itself.
	coded := "Content-Transfer-Encoding: base64\n" + multi("b", "\none")
	askBytes(t, "a whole that is no digits", impl.PartBytes([]byte(coded), 0), impl.ErrCode, "")
	askBytes(t, "a part of it", impl.PartBytes([]byte(coded), 1), impl.OK, "one")
}

func TestPlacesOfViews(t *testing.T) {
	for _, text := range slices.Concat(someMessages(), viewMessages()) {
		count := int64(len(wantParts(text)))
		for place := range count {
			askView(t, text, place)
		}
		for _, place := range []int64{-1, count, count + 1, math.MinInt64, -1 << 32, 1 << 32, math.MaxInt64} {
			askView(t, text, place)
			askBytes(t, strconv.Quote(text), impl.PartBytes([]byte(text), place), impl.ErrRange, "")
			askCodes(t, strconv.Quote(text), impl.PartCodes([]byte(text), place), impl.ErrRange, nil)
			askBytes(t, strconv.Quote(text), impl.ConvertPart([]byte(text), place, impl.CsUtf8), impl.ErrRange, "")
			askBytes(t, strconv.Quote(text), impl.ConvertPart([]byte(text), place, 0), impl.ErrRange, "")
		}
	}
	for _, data := range tooLong() {
		for _, place := range []int64{math.MinInt64, -1, 0, 1, 8, math.MaxInt64} {
			askBytes(t, "too long", impl.PartBytes(data, place), impl.ErrMany, "")
			askCodes(t, "too long", impl.PartCodes(data, place), impl.ErrMany, nil)
			for _, cs := range charsetArguments() {
				askBytes(t, "too long", impl.ConvertPart(data, place, cs), impl.ErrMany, "")
			}
		}
	}
	full := strings.Repeat("x", impl.MaxBytes)
	askBytes(t, "400 bytes", impl.PartBytes([]byte(full), 0), impl.OK, full)
	askBytes(t, "400 bytes behind an empty line", impl.PartBytes([]byte("\n"+full[1:]), 0), impl.OK, full[1:])
	askCodes(t, "400 bytes behind an empty line", impl.PartCodes([]byte("\n"+full[1:]), 0), impl.OK, codesOf(full[1:]))
	askCodes(t, "nothing", impl.PartCodes(nil, 0), impl.OK, nil)
	askBytes(t, "nothing", impl.ConvertPart(nil, 0, impl.CsUtf16), impl.OK, "")
}

func TestCharactersOfEachCharset(t *testing.T) {
	for _, c := range []struct{ charset, body, text string }{
		{"", "a\n", "a\n"}, {"us-ascii", "\x00\x7f", "\x00\x7f"}, {"iso-8859-1", "a\xe4\xff\x80", "aäÿ\u0080"}, {"iso-8859-5", "\xd6\xf0\xfd\xa0\xad", "ж№§\u00a0\u00ad"}, {"utf-8", "\xc3\xa4\xe2\x82\xac\xef\xbf\xbf", "ä€\uffff"}, {"utf-16", "\x046\x00a \xac", "жa€"}, {"UTF-16", "\xfe\xff\x00\n", "\ufeff\n"},
	} {
		for coding, body := range map[string]string{"": c.body, "base64": base64.StdEncoding.EncodeToString([]byte(c.body)), "quoted-printable": impl.EncodeQuoted([]byte(c.body)).Text} {
			message := textOf(c.charset, coding, body)
			askCodes(t, strconv.Quote(message), impl.PartCodes([]byte(message), 0), impl.OK, codesOf(c.text))
			askView(t, message, 0)
			inner := multi("b", "Content-Type: image/x\n\n", message)
			askCodes(t, strconv.Quote(inner), impl.PartCodes([]byte(inner), 2), impl.OK, codesOf(c.text))
		}
		empty := textOf(c.charset, "base64", "\n\n")
		askCodes(t, strconv.Quote(empty), impl.PartCodes([]byte(empty), 0), impl.OK, nil)
	}
	askCodes(t, "no Content-Type", impl.PartCodes([]byte("A: b\n\nab"), 0), impl.OK, codesOf("ab"))
	askCodes(t, "no Content-Type", impl.PartCodes([]byte("A: b\n\na\xc3\xa4"), 0), impl.ErrChars, nil)
	for _, c := range []struct{ charset, body string }{
		// bytes that a charset has not, and halves of a character
		{"", "\x80"}, {"us-ascii", "a\xff"}, {"utf-8", "\xe4"}, {"utf-8", "a\xc3"}, {"utf-8", "\xe2\x82"}, {"utf-8", "\xc0\x80"}, {"utf-8", "\xed\xa0\x80"}, {"utf-8", "\xf0\x9f\x98\x80"}, {"utf-16", "a"}, {"utf-16", "abc"}, {"utf-16", "\xd8\x00"}, {"utf-16", "\xdf\xff"},
	} {
		message := textOf(c.charset, "", c.body)
		askCodes(t, strconv.Quote(message), impl.PartCodes([]byte(message), 0), impl.ErrChars, nil)
		askBytes(t, strconv.Quote(message), impl.PartBytes([]byte(message), 0), impl.OK, c.body)
		askView(t, message, 0)
	}
	for one := range 256 {
		b := string([]byte{byte(one)})
		for _, charset := range []string{"us-ascii", "iso-8859-1", "iso-8859-5", "utf-8", "utf-16"} {
			askView(t, textOf(charset, "", b), 0)
			askView(t, textOf(charset, "", "\x04"+b), 0)
		}
	}
}

func TestCodesOfPartsComeInOrder(t *testing.T) {
	for _, c := range []struct {
		what, data string
		code       int64
	}{
		{"no text", "Content-Type: image/x; charset=utf-8\n\na", impl.ErrForm},
		{"no text, and wrong digits", "Content-Type: image/x\nContent-Transfer-Encoding: base64\n\n!", impl.ErrForm},
		{"no text, and a charset that nobody knows", "Content-Type: image/x; charset=utf-7\n\na", impl.ErrForm},
		{"several parts", multi("b", "\none"), impl.ErrForm},
		{"several parts, and wrong digits", "Content-Transfer-Encoding: base64\n" + multi("b", "\none"), impl.ErrForm},
		{"a header with a fault", "wrong", impl.ErrForm},
		{"wrong digits", textOf("utf-8", "base64", "!"), impl.ErrCode},
		{"wrong digits, and a charset that nobody knows", textOf("utf-7", "base64", "!"), impl.ErrCode},
		{"wrong quoted text, and a charset that nobody knows", textOf("utf-7", "quoted-printable", "="), impl.ErrCode},
		{"a charset that nobody knows", textOf("utf-7", "", "a"), impl.ErrNone},
		{"a charset of no letters", "Content-Type: text/x; charset=\n\na", impl.ErrNone},
		{"a charset that nobody knows, of nothing", textOf("utf-7", "", ""), impl.ErrNone},
		{"a charset that nobody knows, in digits", textOf("utf-7", "base64", "YQ==\n"), impl.ErrNone},
		{"a charset that nobody knows, and bytes that none has", textOf("utf-7", "", "\xff"), impl.ErrNone},
		{"bytes that the charset has not", textOf("utf-8", "", "\xff"), impl.ErrChars},
		{"bytes that the charset has not, in digits", textOf("us-ascii", "base64", "/w=="), impl.ErrChars},
	} {
		askCodes(t, c.what, impl.PartCodes([]byte(c.data), 0), c.code, nil)
		// What one wants it in is asked behind all of that.
		for _, cs := range charsetArguments() {
			askBytes(t, c.what, impl.ConvertPart([]byte(c.data), 0, cs), c.code, "")
		}
		askView(t, c.data, 0)
		askCodes(t, c.what+", and no such part", impl.PartCodes([]byte(c.data), 9), impl.ErrRange, nil)
		askCodes(t, c.what+", and too long", impl.PartCodes([]byte(c.data+strings.Repeat(" ", impl.MaxBytes)), 9), impl.ErrMany, nil)
	}
}

func TestConvertPart(t *testing.T) {
	const russian = "\xd6\xf0a"
	for cs, want := range map[int64]string{impl.CsCyrillic: russian, impl.CsUtf8: "ж№a", impl.CsUtf16: "\x046!\x16\x00a"} {
		askBytes(t, "cyrillic", impl.ConvertPart([]byte(textOf("iso-8859-5", "", russian)), 0, cs), impl.OK, want)
	}
	for _, cs := range []int64{impl.CsAscii, impl.CsLatin} {
		askBytes(t, "a charset that has them not", impl.ConvertPart([]byte(textOf("iso-8859-5", "", russian)), 0, cs), impl.ErrChars, "")
	}
	for _, cs := range charsets {
		askBytes(t, "nothing", impl.ConvertPart([]byte(textOf("utf-16", "quoted-printable", "=\n")), 0, cs), impl.OK, "")
	}
	for _, cs := range noCharsets {
		for _, body := range []string{"", "a", strings.Repeat("\xe4", 300)} {
			askBytes(t, "a charset that is none", impl.ConvertPart([]byte(textOf("iso-8859-1", "", body)), 0, cs), impl.ErrNone, "")
		}
	}
	// Characters that grow: 400 bytes of them, and one more.
	for _, c := range []struct {
		charset, body string
		most          int
		cs            int64
	}{
		{"", "a", 200, impl.CsUtf16}, {"iso-8859-1", "\xe4", 200, impl.CsUtf8}, {"iso-8859-5", "\xf0", 133, impl.CsUtf8}, {"utf-8", "a", 200, impl.CsUtf16}, {"utf-16", " \xac", 133, impl.CsUtf8},
	} {
		message := textOf(c.charset, "", strings.Repeat(c.body, c.most))
		askView(t, message, 0)
		if got := impl.ConvertPart([]byte(message), 0, c.cs); got.Code != impl.OK {
			t.Errorf("%d of %q: code %d", c.most, c.body, got.Code)
		}
		askBytes(t, "one more", impl.ConvertPart([]byte(message+c.body), 0, c.cs), impl.ErrMany, "")
		askView(t, message+c.body, 0)
	}
}

// withLineFeeds puts line feeds ahead of, behind and between digits, one behind each n of them.
func withLineFeeds(digits string, n int) string {
	text := "\n"
	for len(digits) > n {
		text += digits[:n] + "\n"
		digits = digits[n:]
	}
	return text + digits + "\n\n"
}

func TestWhatWasToldInLettersIsSeenAsItsBytes(t *testing.T) {
	ask := func(data []byte) {
		t.Helper()
		want := string(data)
		base, quoted := impl.EncodeBase(data).Text, impl.EncodeQuoted(data).Text
		for _, letters := range []string{base, base + "\n", withLineFeeds(base, 1), withLineFeeds(base, 76)} {
			message := "Content-Transfer-Encoding: base64\n\n" + letters
			if len(message) <= impl.MaxBytes {
				askBytes(t, strconv.Quote(letters), impl.PartBytes([]byte(message), 0), impl.OK, want)
			}
		}
		message := "Content-Transfer-Encoding: quoted-printable\n\n" + quoted
		if len(message) <= impl.MaxBytes {
			askBytes(t, strconv.Quote(quoted), impl.PartBytes([]byte(message), 0), impl.OK, want)
		}
		several := impl.BuildMulti("mark", bodiesOf("Content-Transfer-Encoding: base64\n\n"+base, message))
		if several.Code == impl.OK {
			askBytes(t, "the first of two", impl.PartBytes(several.Bytes, 1), impl.OK, want)
			askBytes(t, "the second of two", impl.PartBytes(several.Bytes, 2), impl.OK, want)
		}
	}
	eachText("a -=\n\xff", 4, func(text string) { ask([]byte(text)) })
	for n := range 275 {
		ask(someBytes(n))
	}
	for one := range 256 {
		ask([]byte{byte(one)})
		ask([]byte{byte(one), '\n', byte(one), 'a'})
	}
}

func TestWhatIsConvertedHasTheSameCharacters(t *testing.T) {
	names := []string{"us-ascii", "iso-8859-1", "iso-8859-5", "utf-8", "utf-16"}
	ask := func(codes []int64) {
		t.Helper()
		for i, name := range names {
			told := impl.EncodeText(int64(i)+1, codes)
			if told.Code != impl.OK {
				continue
			}
			message := []byte(textOf(name, "base64", impl.EncodeBase(told.Bytes).Text+"\n"))
			askCodes(t, name, impl.PartCodes(message, 0), impl.OK, codes)
			for _, cs := range charsets {
				askBytes(t, name, impl.ConvertPart(message, 0, cs), impl.EncodeText(cs, codes).Code, string(impl.EncodeText(cs, codes).Bytes))
			}
			// From each charset and back it is the same again.
			for other := range names {
				there := impl.ConvertPart(message, 0, int64(other)+1)
				if there.Code == impl.OK {
					back := impl.ConvertPart([]byte(textOf(names[other], "quoted-printable", impl.EncodeQuoted(there.Bytes).Text)), 0, int64(i)+1)
					askBytes(t, name+" by "+names[other], back, impl.OK, string(told.Bytes))
				}
			}
		}
	}
	for _, codes := range textsOf([]int64{'a', '\n', 167, 228, 1078, 8470}, 3) {
		ask(codes)
	}
	for _, c := range edgeCharacters {
		ask([]int64{c})
		ask([]int64{'a', c, 'b'})
	}
}

var viewWords = []string{"Content-Type: text/x; charset=utf-8\n", "Content-Type: text/x; charset=?\n", "Content-Type: image/x\n", "Content-Transfer-Encoding: base64\n", "Content-Transfer-Encoding: quoted-printable\n", "Subject: ", "\n", "YQ==", "w6Q=", "=C3=A4", "\xc3\xa4", "\xff", " ", "=?utf-8?Q?b?="}

func TestViewsOfMessagesInPieces(t *testing.T) {
	eachRow(viewWords, 4, func(text string) {
		body, code := wantView(text, 0)
		askBytes(t, strconv.Quote(text), impl.PartBytes([]byte(text), 0), code, body)
		codes, code := wantText(text, 0)
		askCodes(t, strconv.Quote(text), impl.PartCodes([]byte(text), 0), code, codes)
		converted, code := wantConverted(text, 0, impl.CsLatin)
		askBytes(t, strconv.Quote(text), impl.ConvertPart([]byte(text), 0, impl.CsLatin), code, converted)
		askSeen(t, text)
	})
}
