package tests

import (
	"math"
	"slices"
	"strconv"
	"strings"
	"testing"
	"unicode/utf16"
	"unicode/utf8"

	"loop.example/g00447/impl"
)

var charsets = []int64{impl.CsAscii, impl.CsLatin, impl.CsCyrillic, impl.CsUtf8, impl.CsUtf16}

var noCharsets = []int64{math.MinInt64, -1, 0, 6, 7, 1<<32 + 1, math.MaxInt64}

var noCharacters = []int64{math.MinInt64, -1 << 32, -55296, -1, 55296, 55297, 56319, 56320, 57342, 57343, 65536, 65537, 1 << 32, 1<<32 + 65, math.MaxInt64}

// edgeCharacters are those at the borders of each table, in the order of the document.
var edgeCharacters = []int64{0, 127, 128, 160, 161, 167, 173, 255, 256, 1024, 1025, 1037, 1104, 1117, 1119, 1120, 2047, 2048, 8470, 55295, 57344, 65535}

func askCodes(t *testing.T, what string, got impl.CodesResult, code int64, codes []int64) {
	t.Helper()
	if got.Code != code || !slices.Equal(got.Codes, codes) {
		t.Errorf("%s: got code %d %v, want code %d %v", what, got.Code, got.Codes, code, codes)
	}
}

func askInt(t *testing.T, what string, got impl.IntResult, code, value int64) {
	t.Helper()
	if got.Code != code || got.Value != value {
		t.Errorf("%s: got code %d %d, want code %d %d", what, got.Code, got.Value, code, value)
	}
}

func times(n int, codes ...int64) []int64 {
	return slices.Repeat(codes, n)
}

func isSurrogate(c int64) bool {
	return c <= math.MaxInt32 && c >= 0 && utf16.IsSurrogate(rune(c))
}

// cyrillicTable is ISO 8859-5 as it is printed: the character of each byte from 160 on.
func cyrillicTable() []rune {
	return []rune("\u00a0ЁЂЃЄЅІЇЈЉЊЋЌ\u00adЎЏ" +
		"АБВГДЕЖЗИЙКЛМНОП" +
		"РСТУФХЦЧШЩЪЫЬЭЮЯ" +
		"абвгдежзийклмноп" +
		"рстуфхцчшщъыьэюя" +
		"№ёђѓєѕіїјљњћќ§ўџ")
}

// wantBytes tells one character by tables that are none of the program's; it is nil where cs has it not.
func wantBytes(cs int64, c int64) []byte {
	switch cs {
	case impl.CsAscii:
		if c <= 127 {
			return []byte{byte(c)}
		}
	case impl.CsLatin:
		if c <= 255 {
			return []byte{byte(c)}
		}
	case impl.CsCyrillic:
		if c < 160 {
			return []byte{byte(c)}
		}
		if at := slices.Index(cyrillicTable(), rune(c)); at >= 0 {
			return []byte{byte(160 + at)}
		}
	case impl.CsUtf8:
		return utf8.AppendRune(nil, rune(c))
	case impl.CsUtf16:
		unit := utf16.Encode([]rune{rune(c)})[0]
		return []byte{byte(unit / 256), byte(unit % 256)}
	}
	return nil
}

func TestCharsetNames(t *testing.T) {
	names := []string{"us-ascii", "iso-8859-1", "iso-8859-5", "utf-8", "utf-16"}
	for i, name := range names {
		cs := int64(i + 1)
		askText(t, name, impl.CharsetName(cs), impl.OK, name)
		askInt(t, name, impl.CharsetOf(name), impl.OK, cs)
		askInt(t, "large "+name, impl.CharsetOf(strings.ToUpper(name)), impl.OK, cs)
		for at := range len(name) {
			part := name[:at] + strings.ToUpper(name[at:at+1]) + name[at+1:]
			askInt(t, part, impl.CharsetOf(part), impl.OK, cs)
			for _, wrong := range []string{name[:at], name[at+1:], name[:at] + name[at+1:], name[:at] + " " + name[at:], name[:at] + "\x00" + name[at:]} {
				askInt(t, strconv.Quote(wrong), impl.CharsetOf(wrong), impl.ErrNone, 0)
			}
		}
		for _, wrong := range []string{name + " ", name + "\n", name + "\x00", "\t" + name, "\"" + name + "\"", name + "1", name + name, strings.ReplaceAll(name, "-", ""), strings.ReplaceAll(name, "-", "_")} {
			askInt(t, strconv.Quote(wrong), impl.CharsetOf(wrong), impl.ErrNone, 0)
		}
	}
	for _, cs := range noCharsets {
		askText(t, strconv.FormatInt(cs, 10), impl.CharsetName(cs), impl.ErrNone, "")
	}
	// The long s counts as s and the dotless i as i for some, but neither is a large letter A to Z.
	for _, wrong := range []string{"", " ", "ascii", "utf-7", "iso-8859-2", "utf-32", "u\u017f-ascii", "i\u017fo-8859-1", "us-asc\u0131i", "us\rascii", "us-\x41\x53\xc3II", "4", strings.Repeat("u", 1<<16)} {
		askInt(t, strconv.Quote(wrong), impl.CharsetOf(wrong), impl.ErrNone, 0)
	}
}

func TestLettersOfNamesAreExact(t *testing.T) {
	// Only A to Z are as small ones: no other byte may count as one that stands in a name.
	for _, cs := range charsets {
		name := impl.CharsetName(cs).Text
		for at := range len(name) {
			for one := range 256 {
				b := byte(one)
				other := name[:at] + string([]byte{b}) + name[at+1:]
				same := b == name[at] || name[at] >= 'a' && name[at] <= 'z' && b == name[at]-32
				code, value := int64(impl.ErrNone), int64(0)
				switch {
				case same:
					code, value = impl.OK, cs
				case other == "iso-8859-1":
					code, value = impl.OK, impl.CsLatin
				case other == "iso-8859-5":
					code, value = impl.OK, impl.CsCyrillic
				}
				askInt(t, strconv.Quote(other), impl.CharsetOf(other), code, value)
			}
		}
	}
}

func TestEachCharacterInEachCharset(t *testing.T) {
	for _, cs := range charsets {
		name := impl.CharsetName(cs).Text
		for c := int64(-2); c <= 65540; c++ {
			what := name + " " + strconv.FormatInt(c, 10)
			told := impl.EncodeText(cs, []int64{c})
			if c < 0 || c > 65535 || isSurrogate(c) {
				askBytes(t, what, told, impl.ErrRange, "")
				if impl.HasChar(cs, c) {
					t.Errorf("%s: HasChar of what is no character", what)
				}
				continue
			}
			want := wantBytes(cs, c)
			if impl.HasChar(cs, c) != (want != nil) {
				t.Errorf("%s: HasChar is %v", what, want == nil)
			}
			if want == nil {
				askBytes(t, what, told, impl.ErrChars, "")
				continue
			}
			askBytes(t, what, told, impl.OK, string(want))
			askCodes(t, what, impl.DecodeText(cs, want), impl.OK, []int64{c})
		}
	}
}

func TestHasCharOfWrongArguments(t *testing.T) {
	for _, cs := range noCharsets {
		for _, c := range slices.Concat(edgeCharacters, noCharacters) {
			if impl.HasChar(cs, c) {
				t.Errorf("HasChar(%d, %d)", cs, c)
			}
		}
	}
	for _, cs := range charsets {
		for _, c := range noCharacters {
			if impl.HasChar(cs, c) {
				t.Errorf("HasChar(%d, %d)", cs, c)
			}
		}
	}
}

func TestCharactersOfTheEdges(t *testing.T) {
	has := map[int64][]int64{
		impl.CsAscii:    {0, 127},
		impl.CsLatin:    {0, 127, 128, 160, 161, 167, 173, 255},
		impl.CsCyrillic: {0, 127, 128, 160, 167, 173, 1025, 1119, 8470},
		impl.CsUtf8:     edgeCharacters,
		impl.CsUtf16:    edgeCharacters,
	}
	for _, cs := range charsets {
		for _, c := range edgeCharacters {
			if impl.HasChar(cs, c) != slices.Contains(has[cs], c) {
				t.Errorf("HasChar(%d, %d) is %v", cs, c, impl.HasChar(cs, c))
			}
		}
	}
	for _, c := range []struct {
		cs, c int64
		data  string
	}{
		{impl.CsCyrillic, 160, "\xa0"}, {impl.CsCyrillic, 167, "\xfd"}, {impl.CsCyrillic, 173, "\xad"}, {impl.CsCyrillic, 1025, "\xa1"}, {impl.CsCyrillic, 1036, "\xac"}, {impl.CsCyrillic, 1038, "\xae"}, {impl.CsCyrillic, 1103, "\xef"}, {impl.CsCyrillic, 1105, "\xf1"}, {impl.CsCyrillic, 1116, "\xfc"}, {impl.CsCyrillic, 1118, "\xfe"}, {impl.CsCyrillic, 1119, "\xff"}, {impl.CsCyrillic, 8470, "\xf0"},
		{impl.CsUtf8, 0, "\x00"}, {impl.CsUtf8, 127, "\x7f"}, {impl.CsUtf8, 128, "\xc2\x80"}, {impl.CsUtf8, 2047, "\xdf\xbf"}, {impl.CsUtf8, 2048, "\xe0\xa0\x80"}, {impl.CsUtf8, 55295, "\xed\x9f\xbf"}, {impl.CsUtf8, 57344, "\xee\x80\x80"}, {impl.CsUtf8, 65535, "\xef\xbf\xbf"},
		{impl.CsUtf16, 0, "\x00\x00"}, {impl.CsUtf16, 255, "\x00\xff"}, {impl.CsUtf16, 256, "\x01\x00"}, {impl.CsUtf16, 55295, "\xd7\xff"}, {impl.CsUtf16, 57344, "\xe0\x00"}, {impl.CsUtf16, 65535, "\xff\xff"},
	} {
		what := impl.CharsetName(c.cs).Text + " " + strconv.Quote(c.data)
		askBytes(t, what, impl.EncodeText(c.cs, []int64{c.c}), impl.OK, c.data)
		askCodes(t, what, impl.DecodeText(c.cs, []byte(c.data)), impl.OK, []int64{c.c})
	}
}

func TestTextsOfSeveralCharacters(t *testing.T) {
	for _, c := range []struct {
		cs    int64
		codes []int64
		data  string
	}{
		{impl.CsAscii, []int64{'a', 0, 127, '\n'}, "a\x00\x7f\n"},
		{impl.CsLatin, []int64{'a', 228, 255, 128}, "a\xe4\xff\x80"},
		{impl.CsCyrillic, []int64{1078, 'a', 8470, 167}, "\xd6a\xf0\xfd"},
		{impl.CsUtf8, []int64{228, 8364, 'a', 1078}, "\xc3\xa4\xe2\x82\xaca\xd0\xb6"},
		{impl.CsUtf16, []int64{1078, 'a', 65279}, "\x04\x36\x00a\xfe\xff"},
	} {
		name := impl.CharsetName(c.cs).Text
		askBytes(t, name, impl.EncodeText(c.cs, c.codes), impl.OK, c.data)
		askCodes(t, name, impl.DecodeText(c.cs, []byte(c.data)), impl.OK, c.codes)
		askBytes(t, name+", nothing", impl.EncodeText(c.cs, nil), impl.OK, "")
		askBytes(t, name+", an empty list", impl.EncodeText(c.cs, []int64{}), impl.OK, "")
		askCodes(t, name+", nothing", impl.DecodeText(c.cs, nil), impl.OK, nil)
		askCodes(t, name+", an empty list", impl.DecodeText(c.cs, []byte{}), impl.OK, nil)
	}
}

// wantCodes reads bytes by what the library, or a printed table, makes of them.
func wantCodes(cs int64, data []byte) ([]int64, int64) {
	var codes []int64
	switch cs {
	case impl.CsUtf8:
		if !utf8.Valid(data) {
			return nil, impl.ErrChars
		}
		for _, r := range string(data) {
			if r > 65535 {
				return nil, impl.ErrChars
			}
			codes = append(codes, int64(r))
		}
	case impl.CsUtf16:
		if len(data)%2 != 0 {
			return nil, impl.ErrChars
		}
		for at := 0; at < len(data); at += 2 {
			unit := int64(data[at])*256 + int64(data[at+1])
			if isSurrogate(unit) {
				return nil, impl.ErrChars
			}
			codes = append(codes, unit)
		}
	default:
		for _, b := range data {
			if cs == impl.CsAscii && b > 127 {
				return nil, impl.ErrChars
			}
			c := int64(b)
			if cs == impl.CsCyrillic && b >= 160 {
				c = int64(cyrillicTable()[b-160])
			}
			codes = append(codes, c)
		}
	}
	return codes, impl.OK
}

func TestOnlyToldBytesAreRead(t *testing.T) {
	ask := func(cs int64, data []byte) {
		codes, code := wantCodes(cs, data)
		got := impl.DecodeText(cs, data)
		if got.Code != code || !slices.Equal(got.Codes, codes) {
			t.Errorf("%d %q: got code %d %v, want code %d %v", cs, data, got.Code, got.Codes, code, codes)
		}
		if got.Code == impl.OK && string(impl.EncodeText(cs, got.Codes).Bytes) != string(data) {
			t.Errorf("%d %q is read, but told in other bytes", cs, data)
		}
	}
	last := []byte{0, 'a', 127, 128, 129, 191, 192, 224, 240, 255}
	for _, cs := range charsets {
		for one := range 256 {
			ask(cs, []byte{byte(one)})
			for two := range 256 {
				ask(cs, []byte{byte(one), byte(two)})
				if cs == impl.CsUtf16 || cs == impl.CsUtf8 {
					for _, three := range last {
						ask(cs, []byte{byte(one), byte(two), three})
						ask(cs, []byte{three, byte(one), byte(two)})
					}
				}
			}
		}
		ask(cs, allBytes())
		eachText("a\x7f\x80\xbf\xc2\xd8\xe0\xed\xf0\xff", 4, func(text string) { ask(cs, []byte(text)) })
	}
	// All second and third bytes behind the first ones at which something else begins.
	for _, one := range []byte{0xdf, 0xe0, 0xe1, 0xec, 0xed, 0xee, 0xef, 0xf0} {
		for two := range 256 {
			for three := range 256 {
				ask(impl.CsUtf8, []byte{one, byte(two), byte(three)})
			}
		}
	}
}

func TestBytesThatTellNoCharacters(t *testing.T) {
	for _, c := range []struct {
		what string
		cs   int64
		data string
	}{
		{"128", impl.CsAscii, "\x80"},
		{"255 at the end", impl.CsAscii, "abc\xff"},
		{"a first half", impl.CsUtf8, "\xc3"},
		{"a first half ahead of a letter", impl.CsUtf8, "\xc3a"},
		{"two of three", impl.CsUtf8, "\xe2\x82"},
		{"two of three ahead of a letter", impl.CsUtf8, "\xe2\x82a"},
		{"one of three", impl.CsUtf8, "\xe2"},
		{"a second half", impl.CsUtf8, "\x80"},
		{"a second half behind a letter", impl.CsUtf8, "a\xbf"},
		{"two first halves", impl.CsUtf8, "\xc3\xc3"},
		{"0 in two bytes", impl.CsUtf8, "\xc0\x80"},
		{"127 in two bytes", impl.CsUtf8, "\xc1\xbf"},
		{"0 in three bytes", impl.CsUtf8, "\xe0\x80\x80"},
		{"2047 in three bytes", impl.CsUtf8, "\xe0\x9f\xbf"},
		{"55296", impl.CsUtf8, "\xed\xa0\x80"},
		{"57343", impl.CsUtf8, "\xed\xbf\xbf"},
		{"a pair of halves", impl.CsUtf8, "\xed\xa0\xbd\xed\xb8\x80"},
		{"65536 in four bytes", impl.CsUtf8, "\xf0\x90\x80\x80"},
		{"65535 in four bytes", impl.CsUtf8, "\xf0\x8f\xbf\xbf"},
		{"four bytes behind a letter", impl.CsUtf8, "a\xf0\x9f\x98\x80"},
		{"254", impl.CsUtf8, "\xfe\x80\x80"},
		{"255", impl.CsUtf8, "\xff\xbf\xbf"},
		{"one byte", impl.CsUtf16, "a"},
		{"three bytes", impl.CsUtf16, "\x00a\x00"},
		{"55296", impl.CsUtf16, "\xd8\x00"},
		{"57343", impl.CsUtf16, "\xdf\xff"},
		{"a pair of halves", impl.CsUtf16, "\xd8\x3d\xde\x00"},
		{"a half at the end", impl.CsUtf16, "\x00a\xdc\x00"},
	} {
		askCodes(t, impl.CharsetName(c.cs).Text+": "+c.what, impl.DecodeText(c.cs, []byte(c.data)), impl.ErrChars, nil)
	}
	// Of these two each byte is told of some character.
	for _, cs := range []int64{impl.CsLatin, impl.CsCyrillic} {
		if got := impl.DecodeText(cs, allBytes()); got.Code != impl.OK || len(got.Codes) != 256 {
			t.Errorf("%d: code %d, %d characters", cs, got.Code, len(got.Codes))
		}
	}
}

func TestCodesFault(t *testing.T) {
	for _, c := range []struct {
		what  string
		codes []int64
		want  int64
	}{
		{"nil", nil, impl.OK},
		{"an empty list", []int64{}, impl.OK},
		{"the edges", edgeCharacters, impl.OK},
		{"MaxBytes", times(impl.MaxBytes, 65535), impl.OK},
		{"one more", times(impl.MaxBytes+1, 65535), impl.ErrMany},
		{"far more", times(1<<16, 0), impl.ErrMany},
		{"one more, and no characters", times(impl.MaxBytes+1, -1), impl.ErrMany},
		{"MaxBytes, the last one no character", append(times(impl.MaxBytes-1, 0), 65536), impl.ErrRange},
		{"the first one no character", []int64{-1, 'a'}, impl.ErrRange},
	} {
		if got := impl.CodesFault(c.codes); got != c.want {
			t.Errorf("%s: got %d, want %d", c.what, got, c.want)
		}
	}
	for _, c := range edgeCharacters {
		if impl.CodesFault([]int64{c}) != impl.OK {
			t.Errorf("%d is a character", c)
		}
	}
	for _, c := range noCharacters {
		for _, codes := range [][]int64{{c}, {'a', c}, {c, 'a'}} {
			if impl.CodesFault(codes) != impl.ErrRange {
				t.Errorf("%v: %d is no character", codes, c)
			}
		}
	}
}

func TestEncodeTextAsksItsCodesInOrder(t *testing.T) {
	for _, cs := range noCharsets {
		for _, codes := range [][]int64{nil, {'a'}, {-1}, times(impl.MaxBytes+1, 'a'), times(impl.MaxBytes+1, -1)} {
			askBytes(t, "no charset", impl.EncodeText(cs, codes), impl.ErrNone, "")
		}
	}
	for _, cs := range charsets {
		askBytes(t, "too many", impl.EncodeText(cs, times(impl.MaxBytes+1, 'a')), impl.ErrMany, "")
		askBytes(t, "too many that are none", impl.EncodeText(cs, times(impl.MaxBytes+1, -1)), impl.ErrMany, "")
		askBytes(t, "too many that it has not", impl.EncodeText(cs, times(impl.MaxBytes+1, 8471)), impl.ErrMany, "")
		for _, c := range noCharacters {
			askBytes(t, "none", impl.EncodeText(cs, []int64{c}), impl.ErrRange, "")
			askBytes(t, "none, behind one that it has not", impl.EncodeText(cs, []int64{8471, 8471, c}), impl.ErrRange, "")
			askBytes(t, "none, behind too many bytes", impl.EncodeText(cs, append(times(impl.MaxBytes-1, 8471), c)), impl.ErrRange, "")
		}
	}
	for _, cs := range []int64{impl.CsAscii, impl.CsLatin, impl.CsCyrillic} {
		askBytes(t, "one that it has not", impl.EncodeText(cs, append(times(impl.MaxBytes-1, 'a'), 8471)), impl.ErrChars, "")
		askBytes(t, "one that it has not, ahead", impl.EncodeText(cs, append([]int64{1037}, times(impl.MaxBytes-1, 'a')...)), impl.ErrChars, "")
	}
}

func TestTextBounds(t *testing.T) {
	for _, c := range []struct {
		what  string
		cs    int64
		codes []int64
		code  int64
	}{
		{"MaxBytes", impl.CsAscii, times(impl.MaxBytes, 'a'), impl.OK},
		{"MaxBytes", impl.CsLatin, times(impl.MaxBytes, 255), impl.OK},
		{"MaxBytes", impl.CsCyrillic, times(impl.MaxBytes, 8470), impl.OK},
		{"MaxBytes", impl.CsUtf8, times(impl.MaxBytes, 127), impl.OK},
		{"half as many of two bytes", impl.CsUtf8, times(impl.MaxBytes/2, 2047), impl.OK},
		{"one byte more", impl.CsUtf8, append(times(impl.MaxBytes/2, 2047), 'a'), impl.ErrMany},
		{"a third of three bytes", impl.CsUtf8, append(times(impl.MaxBytes/3, 2048), 'a'), impl.OK},
		{"one byte more", impl.CsUtf8, append(times(impl.MaxBytes/3, 2048), 'a', 'a'), impl.ErrMany},
		{"one of two bytes at the bound", impl.CsUtf8, append(times(impl.MaxBytes-1, 'a'), 128), impl.ErrMany},
		{"MaxBytes of three bytes", impl.CsUtf8, times(impl.MaxBytes, 65535), impl.ErrMany},
		{"half as many", impl.CsUtf16, times(impl.MaxBytes/2, 'a'), impl.OK},
		{"one more", impl.CsUtf16, times(impl.MaxBytes/2+1, 'a'), impl.ErrMany},
		{"MaxBytes of two bytes", impl.CsUtf16, times(impl.MaxBytes, 0), impl.ErrMany},
	} {
		what := impl.CharsetName(c.cs).Text + ": " + c.what
		want := ""
		if c.code == impl.OK {
			for _, one := range c.codes {
				want += string(wantBytes(c.cs, one))
			}
		}
		askBytes(t, what, impl.EncodeText(c.cs, c.codes), c.code, want)
		if c.code == impl.OK {
			askCodes(t, what, impl.DecodeText(c.cs, []byte(want)), impl.OK, c.codes)
		}
	}
}

func TestDecodeTextAsksItsCodesInOrder(t *testing.T) {
	full := strings.Repeat("a", impl.MaxBytes)
	for _, cs := range noCharsets {
		for _, data := range []string{"", "a", "\xff", full, full + "a", full + "\xff"} {
			askCodes(t, "no charset", impl.DecodeText(cs, []byte(data)), impl.ErrNone, nil)
		}
	}
	for _, cs := range charsets {
		if got := impl.DecodeText(cs, []byte(full)); got.Code != impl.OK {
			t.Errorf("%d: MaxBytes: code %d", cs, got.Code)
		}
		for _, more := range []string{"a", "\xff", "\xd8\x00", full, strings.Repeat("\xff", 1<<16)} {
			askCodes(t, "too many", impl.DecodeText(cs, []byte(full+more)), impl.ErrMany, nil)
			askCodes(t, "too many", impl.DecodeText(cs, []byte(more+full)), impl.ErrMany, nil)
		}
	}
	askCodes(t, "a half behind MaxBytes less one", impl.DecodeText(impl.CsUtf8, []byte(full[1:]+"\xc3")), impl.ErrChars, nil)
	askCodes(t, "odd", impl.DecodeText(impl.CsUtf16, []byte(full[1:])), impl.ErrChars, nil)
	askCodes(t, "255", impl.DecodeText(impl.CsAscii, []byte(full[1:]+"\xff")), impl.ErrChars, nil)
}
