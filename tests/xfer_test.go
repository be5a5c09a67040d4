package tests

import (
	"bytes"
	"encoding/base64"
	"regexp"
	"strconv"
	"strings"
	"testing"

	"loop.example/g00447/impl"
)

const baseAlphabet = "ABCDEFGHIJKLMNOPQRSTUVWXYZabcdefghijklmnopqrstuvwxyz0123456789+/"

// someBytes makes n bytes of every value, in an order that repeats late.
func someBytes(n int) []byte {
	data := make([]byte, n)
	for i := range data {
		data[i] = byte(i*167 + i/256*31 + n)
	}
	return data
}

func allBytes() []byte {
	data := make([]byte, 256)
	for i := range data {
		data[i] = byte(i)
	}
	return data
}

// eachText calls ask with every text of up to most letters of an alphabet.
func eachText(alphabet string, most int, ask func(text string)) {
	texts := []string{""}
	for range most + 1 {
		var longer []string
		for _, text := range texts {
			ask(text)
			for _, letter := range []byte(alphabet) {
				longer = append(longer, text+string([]byte{letter}))
			}
		}
		texts = longer
	}
}

func askText(t *testing.T, what string, got impl.TextResult, code int64, text string) {
	t.Helper()
	if got.Code != code || got.Text != text {
		t.Errorf("%s: got code %d %q, want code %d %q", what, got.Code, got.Text, code, text)
	}
}

func askBytes(t *testing.T, what string, got impl.BytesResult, code int64, data string) {
	t.Helper()
	if got.Code != code || string(got.Bytes) != data {
		t.Errorf("%s: got code %d %q, want code %d %q", what, got.Code, got.Bytes, code, data)
	}
}

func TestBaseDigit(t *testing.T) {
	for v := range int64(64) {
		got := impl.BaseDigit(v)
		if got.Code != impl.OK || got.Value != int64(baseAlphabet[v]) {
			t.Errorf("BaseDigit(%d): got %+v, want %q", v, got, baseAlphabet[v])
		}
	}
	for _, v := range []int64{-1, 64, 65, 255, 256, 1 << 32, -1 << 63, 1<<63 - 1} {
		if got := impl.BaseDigit(v); got != (impl.IntResult{Code: impl.ErrRange}) {
			t.Errorf("BaseDigit(%d): got %+v, want ErrRange", v, got)
		}
	}
}

func TestEncodeBase(t *testing.T) {
	for _, c := range []struct{ data, text string }{
		{"", ""},
		{"a", "YQ=="},
		{"ab", "YWI="},
		{"abc", "YWJj"},
		{"abcd", "YWJjZA=="},
		{"\x00", "AA=="},
		{"\x00\x00", "AAA="},
		{"\x00\x00\x00", "AAAA"},
		{"\xff", "/w=="},
		{"\xff\xff", "//8="},
		{"\xff\xff\xff", "////"},
		{"\xfb\xef\xbe", "++++"},
		{"\x00\x10\x83", "ABCD"},
	} {
		askText(t, strconv.Quote(c.data), impl.EncodeBase([]byte(c.data)), impl.OK, c.text)
	}
	for n := range impl.MaxBytes + 1 {
		data := someBytes(n)
		want := base64.StdEncoding.EncodeToString(data)
		askText(t, strconv.Itoa(n)+" bytes", impl.EncodeBase(data), impl.OK, want)
	}
	for _, n := range []int{impl.MaxBytes + 1, impl.MaxBytes + 2, 1 << 16} {
		askText(t, strconv.Itoa(n)+" bytes", impl.EncodeBase(someBytes(n)), impl.ErrMany, "")
	}
}

func TestDecodeBaseReadsBack(t *testing.T) {
	for n := range impl.MaxBytes + 1 {
		data := someBytes(n)
		askBytes(t, strconv.Itoa(n)+" bytes", impl.DecodeBase(impl.EncodeBase(data).Text), impl.OK, string(data))
	}
	for one := range 256 {
		data := []byte{byte(one)}
		askBytes(t, "one byte", impl.DecodeBase(impl.EncodeBase(data).Text), impl.OK, string(data))
		for two := range 256 {
			data := []byte{byte(one), byte(two)}
			askBytes(t, "two bytes", impl.DecodeBase(impl.EncodeBase(data).Text), impl.OK, string(data))
		}
	}
}

func TestDecodeBaseEdges(t *testing.T) {
	for _, c := range []struct {
		text string
		code int64
		data string
	}{
		{"", impl.OK, ""},
		{"YQ==", impl.OK, "a"},
		{"YWI=", impl.OK, "ab"},
		{"YWJj", impl.OK, "abc"},
		{"YWJjYQ==", impl.OK, "abca"},
		{"YWJjYWI=", impl.OK, "abcab"},
		// bits behind the last byte
		{"YR==", impl.ErrCode, ""},
		{"Yf==", impl.ErrCode, ""},
		{"YY==", impl.ErrCode, ""},
		{"YWJ=", impl.ErrCode, ""},
		{"YWK=", impl.ErrCode, ""},
		{"YWL=", impl.ErrCode, ""},
		// no whole number of four digits
		{"Y", impl.ErrCode, ""},
		{"YQ", impl.ErrCode, ""},
		{"YQ=", impl.ErrCode, ""},
		{"YWI", impl.ErrCode, ""},
		{"YQ===", impl.ErrCode, ""},
		{"YWJjY", impl.ErrCode, ""},
		{"YWJj=", impl.ErrCode, ""},
		{"YWJj==", impl.ErrCode, ""},
		// `=` where it may not stand
		{"=", impl.ErrCode, ""},
		{"====", impl.ErrCode, ""},
		{"Y===", impl.ErrCode, ""},
		{"A===", impl.ErrCode, ""},
		{"=YQ=", impl.ErrCode, ""},
		{"Y=Q=", impl.ErrCode, ""},
		{"YQ=A", impl.ErrCode, ""},
		{"AA=A", impl.ErrCode, ""},
		{"A=AA", impl.ErrCode, ""},
		{"YQ==YQ==", impl.ErrCode, ""},
		{"YWI=YWJj", impl.ErrCode, ""},
		{"YWJj====", impl.ErrCode, ""},
		// letters that are no digits
		{"YW-j", impl.ErrCode, ""},
		{"YW_j", impl.ErrCode, ""},
		{"YW j", impl.ErrCode, ""},
		{"YWJj\n", impl.ErrCode, ""},
		{"YW\nj", impl.ErrCode, ""},
		{"YWJ\x00", impl.ErrCode, ""},
		{"YWJ\xff", impl.ErrCode, ""},
	} {
		askBytes(t, strconv.Quote(c.text), impl.DecodeBase(c.text), c.code, c.data)
	}
}

// wantBase reads a text by another reader, which passes over line ends.
func wantBase(text string) (string, int64) {
	data, err := base64.StdEncoding.Strict().DecodeString(text)
	if err != nil || strings.ContainsAny(text, "\r\n") {
		return "", impl.ErrCode
	}
	return string(data), impl.OK
}

func TestDecodeBaseReadsOnlyWhatIsTold(t *testing.T) {
	ask := func(text string) {
		data, code := wantBase(text)
		got := impl.DecodeBase(text)
		askBytes(t, strconv.Quote(text), got, code, data)
		if got.Code == impl.OK && impl.EncodeBase(got.Bytes).Text != text {
			t.Errorf("%q is read, but not told of its bytes", text)
		}
	}
	eachText("AQwx/=-\n", 5, ask)
	eachText("Ag=", 9, ask)
	for letter := range 256 {
		one := string([]byte{byte(letter)})
		for _, text := range []string{one + "AAA", "A" + one + "AA", "AA" + one + "A", "AAA" + one, "A" + one + "==", "AA" + one + "="} {
			ask(text)
		}
	}
}

func TestDecodeBaseBounds(t *testing.T) {
	full := impl.EncodeBase(someBytes(impl.MaxBytes)).Text
	over := base64.StdEncoding.EncodeToString(someBytes(impl.MaxBytes + 1))
	for _, c := range []struct {
		what, text string
		code       int64
	}{
		{"MaxBytes and 1", over, impl.ErrMany},
		{"MaxBytes and 2", base64.StdEncoding.EncodeToString(someBytes(impl.MaxBytes + 2)), impl.ErrMany},
		{"longest text", strings.Repeat("A", 4*impl.MaxBytes), impl.ErrMany},
		{"longest text with fill", strings.Repeat("A", 4*impl.MaxBytes-2) + "==", impl.ErrMany},
		{"longest text, wrong at its end", strings.Repeat("A", 4*impl.MaxBytes-1) + "-", impl.ErrCode},
		{"longest text, wrong bits at its end", strings.Repeat("A", 4*impl.MaxBytes-3) + "B==", impl.ErrCode},
		{"one less than the longest text", strings.Repeat("A", 4*impl.MaxBytes-1), impl.ErrCode},
		{"wrong digit behind too many bytes", over + "-AAA", impl.ErrCode},
		{"fill ahead of more, too many bytes", full + "AAAA", impl.ErrCode},
		{"one more than the longest text", strings.Repeat("A", 4*impl.MaxBytes+1), impl.ErrMany},
		{"wrong and too long", strings.Repeat("-", 4*impl.MaxBytes+1), impl.ErrMany},
		{"wrong and far too long", strings.Repeat("=", 1<<16), impl.ErrMany},
	} {
		askBytes(t, c.what, impl.DecodeBase(c.text), c.code, "")
	}
}

func TestEncodeQuoted(t *testing.T) {
	for _, c := range []struct{ data, text string }{
		{"", ""},
		{"a = b", "a =3D b"},
		{"a = b \n\xe4", "a =3D b=20\n=E4"},
		{"=", "=3D"},
		{"\n", "\n"},
		{"\n\n", "\n\n"},
		{" ", "=20"},
		{"\t", "=09"},
		{" \n", "=20\n"},
		{"\t\n", "=09\n"},
		{"\n ", "\n=20"},
		{" a", " a"},
		{"\ta", "\ta"},
		{"  ", " =20"},
		{" \t", " =09"},
		{"  \n", " =20\n"},
		{"\t\t\n", "\t=09\n"},
		{" \r\n", " =0D\n"},
		{" =", " =3D"},
		{" \x00", " =00"},
		{"!~", "!~"},
		{"\x1f\x7f\x80\xff", "=1F=7F=80=FF"},
		{"\r\n", "=0D\n"},
		{"=\n", "=3D\n"},
		{"=3D", "=3D3D"},
	} {
		askText(t, strconv.Quote(c.data), impl.EncodeQuoted([]byte(c.data)), impl.OK, c.text)
	}
	for _, n := range []int{impl.MaxBytes + 1, 1 << 16} {
		askText(t, strconv.Itoa(n)+" bytes", impl.EncodeQuoted(bytes.Repeat([]byte("a"), n)), impl.ErrMany, "")
	}
}

func TestEncodeQuotedOfEachByte(t *testing.T) {
	for one := range 256 {
		b := byte(one)
		want := string([]byte{b}) + "."
		if b != '\n' && b != '\t' && (b < ' ' || b > '~' || b == '=') {
			want = "=" + strings.ToUpper(strconv.FormatInt(int64(b)+256, 16)[1:]) + "."
		}
		askText(t, strconv.Itoa(one), impl.EncodeQuoted([]byte{b, '.'}), impl.OK, want)
	}
}

func TestQuotedReadsBackAndIsPlain(t *testing.T) {
	ask := func(data []byte) {
		t.Helper()
		told := impl.EncodeQuoted(data)
		if told.Code != impl.OK || !impl.IsPlain([]byte(told.Text)) {
			t.Errorf("%q: code %d, text %q is not plain", data, told.Code, told.Text)
		}
		askBytes(t, strconv.Quote(string(data)), impl.DecodeQuoted(told.Text), impl.OK, string(data))
	}
	ask(nil)
	ask(allBytes())
	for n := range impl.MaxBytes + 1 {
		ask(someBytes(n))
	}
	ask(bytes.Repeat([]byte{0xff}, impl.MaxBytes))
	ask(bytes.Repeat([]byte{' '}, impl.MaxBytes))
	eachText("a= \t\n\r\xe4", 5, func(text string) { ask([]byte(text)) })
}

func TestDecodeQuotedEdges(t *testing.T) {
	for _, c := range []struct {
		text string
		code int64
		data string
	}{
		{"", impl.OK, ""},
		{"a=\nb=3D", impl.OK, "ab="},
		{"=\n", impl.OK, ""},
		{"=\n=\n", impl.OK, ""},
		{"=\n\n", impl.OK, "\n"},
		{"a =\nb", impl.OK, "a b"},
		{"a\t=\n", impl.OK, "a\t"},
		{"\n", impl.OK, "\n"},
		{" a", impl.OK, " a"},
		{"\t\ta", impl.OK, "\t\ta"},
		{"=20", impl.OK, " "},
		{"=20\n", impl.OK, " \n"},
		{"=0A", impl.OK, "\n"},
		{" =0A", impl.OK, " \n"},
		{"=41", impl.OK, "A"},
		{"=00=FF", impl.OK, "\x00\xff"},
		{"!~", impl.OK, "!~"},
		// a blank or tab at the end of a line, or of all
		{"a ", impl.ErrCode, ""},
		{"a\t", impl.ErrCode, ""},
		{" ", impl.ErrCode, ""},
		{"a \nb", impl.ErrCode, ""},
		{"a\t\nb", impl.ErrCode, ""},
		{"=\n ", impl.ErrCode, ""},
		// letters that are no digits
		{"=3d", impl.ErrCode, ""},
		{"=d3", impl.ErrCode, ""},
		{"=G0", impl.ErrCode, ""},
		{"=0G", impl.ErrCode, ""},
		{"=/0", impl.ErrCode, ""},
		{"=0:", impl.ErrCode, ""},
		{"=@0", impl.ErrCode, ""},
		{"= 0", impl.ErrCode, ""},
		{"=0\n", impl.ErrCode, ""},
		{"==3D", impl.ErrCode, ""},
		{"=\r\n", impl.ErrCode, ""},
		{"= \n", impl.ErrCode, ""},
		// too little behind `=`
		{"=", impl.ErrCode, ""},
		{"a=", impl.ErrCode, ""},
		{"=3", impl.ErrCode, ""},
		{"a=3", impl.ErrCode, ""},
		{"==", impl.ErrCode, ""},
		// bytes that have to be told in digits
		{"\x00", impl.ErrCode, ""},
		{"\x08", impl.ErrCode, ""},
		{"\x0b", impl.ErrCode, ""},
		{"\r\n", impl.ErrCode, ""},
		{"\x1fa", impl.ErrCode, ""},
		{"\x7f", impl.ErrCode, ""},
		{"\x80", impl.ErrCode, ""},
		{"\xff", impl.ErrCode, ""},
	} {
		askBytes(t, strconv.Quote(c.text), impl.DecodeQuoted(c.text), c.code, c.data)
	}
}

var quotedForm = regexp.MustCompile(`\A(?:[\t\n -<>-~]|=\n|=[0-9A-F]{2})*\z`)
var quotedBlankEnd = regexp.MustCompile(`[ \t](?:\n|\z)`)
var quotedPiece = regexp.MustCompile(`=\n|=[0-9A-F]{2}`)

// wantQuoted reads a text by its form as a whole.
func wantQuoted(text string) (string, int64) {
	if !quotedForm.MatchString(text) || quotedBlankEnd.MatchString(text) {
		return "", impl.ErrCode
	}
	return quotedPiece.ReplaceAllStringFunc(text, func(piece string) string {
		if piece == "=\n" {
			return ""
		}
		b, _ := strconv.ParseUint(piece[1:], 16, 8)
		return string([]byte{byte(b)})
	}), impl.OK
}

func TestDecodeQuotedReadsOnlyItsForm(t *testing.T) {
	eachText("ad=2 \t\nF\x00", 5, func(text string) {
		data, code := wantQuoted(text)
		askBytes(t, strconv.Quote(text), impl.DecodeQuoted(text), code, data)
	})
	for one := range 256 {
		letter := string([]byte{byte(one)})
		switch data, code := letter, impl.DecodeQuoted(letter+"."); {
		case one == '\t' || one == '\n' || one >= 32 && one <= 126 && one != '=':
			askBytes(t, strconv.Quote(letter), code, impl.OK, data+".")
		default:
			askBytes(t, strconv.Quote(letter), code, impl.ErrCode, "")
		}
		for other := range 256 {
			text := "=" + letter + string([]byte{byte(other)})
			data, code := "", int64(impl.ErrCode)
			high, low := strings.IndexByte("0123456789ABCDEF", byte(one)), strings.IndexByte("0123456789ABCDEF", byte(other))
			switch {
			case high >= 0 && low >= 0:
				data, code = string([]byte{byte(16*high + low)}), impl.OK
			case one == '\n' && (other == '\n' || other > ' ' && other <= '~' && other != '='):
				data, code = string([]byte{byte(other)}), impl.OK
			}
			askBytes(t, strconv.Quote(text), impl.DecodeQuoted(text), code, data)
		}
	}
}

func TestDecodeQuotedBounds(t *testing.T) {
	full := strings.Repeat("a", impl.MaxBytes)
	for _, c := range []struct {
		what, text string
		code       int64
		data       string
	}{
		{"MaxBytes", full, impl.OK, full},
		{"MaxBytes in digits", strings.Repeat("=61", impl.MaxBytes), impl.OK, full},
		{"MaxBytes and broken lines up to the longest text", full + strings.Repeat("=\n", 600), impl.OK, full},
		{"nothing but broken lines", strings.Repeat("=\n", 800), impl.OK, ""},
		{"MaxBytes and 1", full + "a", impl.ErrMany, ""},
		{"MaxBytes and 1 in digits", full + "=61", impl.ErrMany, ""},
		{"longest text", strings.Repeat("a", 4*impl.MaxBytes), impl.ErrMany, ""},
		{"wrong letter behind too many bytes", full + "aa=", impl.ErrCode, ""},
		{"wrong letter behind too many bytes in digits", strings.Repeat("=61", impl.MaxBytes+1) + "=", impl.ErrCode, ""},
		{"longest text, wrong at its end", strings.Repeat("a", 4*impl.MaxBytes-1) + " ", impl.ErrCode, ""},
		{"one more than the longest text", strings.Repeat("=\n", 800) + "a", impl.ErrMany, ""},
		{"wrong and too long", strings.Repeat("=", 4*impl.MaxBytes+1), impl.ErrMany, ""},
		{"wrong and far too long", strings.Repeat("\xff", 1<<16), impl.ErrMany, ""},
	} {
		askBytes(t, c.what, impl.DecodeQuoted(c.text), c.code, c.data)
	}
}

func TestIsPlain(t *testing.T) {
	if !impl.IsPlain(nil) || !impl.IsPlain([]byte{}) {
		t.Error("no bytes at all are plain")
	}
	for one := range 256 {
		b, want := byte(one), one >= 1 && one <= 127
		for _, data := range [][]byte{{b}, {b, 'a'}, {'a', b}, {'a', b, 'a'}} {
			if impl.IsPlain(data) != want {
				t.Errorf("IsPlain(%v): want %v", data, want)
			}
		}
	}
	long := bytes.Repeat([]byte{127}, 3*impl.MaxBytes)
	if !impl.IsPlain(long) {
		t.Error("many plain bytes are plain")
	}
	long[len(long)-1] = 128
	if impl.IsPlain(long) {
		t.Error("the last of many bytes counts")
	}
}
