package tests

import (
	"bytes"
	"encoding/base64"
	"slices"
	"strconv"
	"strings"
	"testing"

	"loop.example/g00447/impl"
)

func hasHighByte(text string) bool {
	return slices.ContainsFunc([]byte(text), func(b byte) bool { return b > 127 })
}

// wantLegacy tells a message line by line, by the other readers of headers and words.
func wantLegacy(data string) (told string, code int64) {
	if len(data) > impl.MaxBytes {
		return "", impl.ErrMany
	}
	fields, at, code := wantHeader(data)
	if code != impl.OK {
		return "", code
	}
	for _, f := range fields {
		value := f.Value
		if hasHighByte(value) {
			value = "=?utf-8?B?" + base64.StdEncoding.EncodeToString([]byte(wantWords(value))) + "?="
		}
		if len(value) > 120 {
			return "", impl.ErrMany
		}
		told += f.Name + ": " + value + "\n"
	}
	told += "\n" + data[at:]
	if len(told) > impl.MaxBytes {
		return "", impl.ErrMany
	}
	return told, impl.OK
}

// askLegacy asks promise 7: a plain header, the same subject, the same body.
func askLegacy(t *testing.T, data string) {
	t.Helper()
	told := impl.LegacyOf([]byte(data))
	if told.Code != impl.OK {
		return
	}
	before, header := impl.ParseHeader([]byte(data)), impl.ParseHeader(told.Bytes)
	if header.Code != impl.OK || !impl.IsPlain(told.Bytes[:header.At]) {
		t.Errorf("%q: the header of %q is not plain", data, told.Bytes)
		return
	}
	if string(told.Bytes[header.At:]) != data[before.At:] {
		t.Errorf("%q: %q has another body", data, told.Bytes)
	}
	if !slices.Equal(codesAnd(impl.SubjectOf([]byte(data))), codesAnd(impl.SubjectOf(told.Bytes))) {
		t.Errorf("%q: %q has another subject", data, told.Bytes)
	}
	if len(header.Fields) != len(before.Fields) {
		t.Errorf("%q: %q has other fields", data, told.Bytes)
		return
	}
	for i, f := range header.Fields {
		if f.Name != before.Fields[i].Name {
			t.Errorf("%q: %q has other names", data, told.Bytes)
		}
		askCodes(t, f.Name, impl.DecodeWords(f.Value), impl.OK, impl.DecodeWords(before.Fields[i].Value).Codes)
	}
	// Who is told it once more is told the same.
	askBytes(t, "told twice", impl.LegacyOf(told.Bytes), impl.OK, string(told.Bytes))
}

// codesAnd are the characters of an answer and its code behind them.
func codesAnd(r impl.CodesResult) []int64 {
	return append(slices.Clone(r.Codes), r.Code)
}

func TestLegacyOf(t *testing.T) {
	for _, c := range []struct{ data, want string }{
		// of nothing, and without an empty line
		{"", "\n"}, {"\n", "\n"}, {"\nbody", "\nbody"}, {"\n\n", "\n\n"}, {"A: b", "A: b\n\n"}, {"A: b\n", "A: b\n\n"}, {"A: b\n\n", "A: b\n\n"}, {"A: b\n\n\n", "A: b\n\n\n"}, {"A:b\n\nbody\n", "A: b\n\nbody\n"}, {"A:\n\n", "A: \n\n"}, {"A:  b ", "A:  b \n\n"}, {"A: b\n c\n  d\n\nx", "A: b c  d\n\nx"},
		{"Subject: \xc3\xa4", "Subject: =?utf-8?B?w6Q=?=\n\n"}, {"Subject: \xc3\xa4\n", "Subject: =?utf-8?B?w6Q=?=\n\n"},
		// bytes above 127 alone, and with others
		{"Subject: \xc3\xa4\n\nbody", "Subject: =?utf-8?B?w6Q=?=\n\nbody"}, {"A: \x80\n\n", "A: =?utf-8?B?77+9?=\n\n"}, {"A: \xff\xff\n\n", "A: =?utf-8?B?77+977+9?=\n\n"}, {"A: a\xc3\xa4b\n\n", "A: =?utf-8?B?YcOkYg==?=\n\n"}, {"A:  \xc3\xa4 \n\n", "A: =?utf-8?B?IMOkIA==?=\n\n"}, {"A: \xc3\n \xa4\n\n", "A: =?utf-8?B?77+9IO+/vQ==?=\n\n"},
		// told words beside them, and without any
		{"A: =?utf-8?Q?b?= \xc3\xa4\n\n", "A: =?utf-8?B?YiDDpA==?=\n\n"}, {"A: =?utf-8?Q?a?= =?utf-8?Q?b?=\xc3\xa4\n\n", "A: =?utf-8?B?YWLDpA==?=\n\n"}, {"A: \xc3\xa4=?iso-8859-5?B?1g==?=\n\n", "A: =?utf-8?B?w6TQtg==?=\n\n"}, {"A: =?utf-7?Q?b?=\xc3\xa4\n\n", "A: =?utf-8?B?PT91dGYtNz9RP2I/PcOk?=\n\n"},
		// told words alone stay as they are, whatever they tell
		{"A: =?iso-8859-1?Q?=E4?=\n\n", "A: =?iso-8859-1?Q?=E4?=\n\n"}, {"A: =?utf-8?Q?a?=  =?utf-8?Q?b?=\n\n", "A: =?utf-8?Q?a?=  =?utf-8?Q?b?=\n\n"}, {"A: =?bad?Q?a?=\n\n", "A: =?bad?Q?a?=\n\n"}, {"A: ~ =?\n\n", "A: ~ =?\n\n"},
		// each field by itself, names as they are, more than one of a name
		{"a: \xc3\xa4\nB: c\na: \xc3\xb6\n\n", "a: =?utf-8?B?w6Q=?=\nB: c\na: =?utf-8?B?w7Y=?=\n\n"}, {"SUBJECT: \xd0\xb6\nX-1:y\n\n", "SUBJECT: =?utf-8?B?0LY=?=\nX-1: y\n\n"},
		// the body stays, whatever it has
		{"A: b\n\n\xc3\xa4\x00\xff\n\nC: \xe4\n", "A: b\n\n\xc3\xa4\x00\xff\n\nC: \xe4\n"}, {"\n\xe4", "\n\xe4"}, {multi("b", "Subject: \xc3\xa4\n\n\xe4"), multi("b", "Subject: \xc3\xa4\n\n\xe4")},
		{strings.Repeat("A: \xc3\xa4\n", 8), strings.Repeat("A: =?utf-8?B?w6Q=?=\n", 8) + "\n"},
	} {
		askBytes(t, strconv.Quote(c.data), impl.LegacyOf([]byte(c.data)), impl.OK, c.want)
		askSeen(t, c.data)
	}
}

func TestLegacyOfHeadersWithAFault(t *testing.T) {
	long := "A: " + strings.Repeat("\xff", 120) + "\n"
	for _, data := range []string{"wrong", " a", "A: b\nwrong", "A: \x7f", "A: b\n\tc", strings.Repeat("A:\n", 9), "A: " + strings.Repeat("a", 121), "\xc3\xa4: b", long + "wrong", long + "B: \x7f", "A: " + strings.Repeat("\xff", 121)} {
		askBytes(t, strconv.Quote(data), impl.LegacyOf([]byte(data)), impl.ErrForm, "")
		askBytes(t, "and more than 400 bytes", impl.LegacyOf([]byte(data+strings.Repeat("x", 400))), impl.ErrMany, "")
	}
}

func TestValuesThatGrow(t *testing.T) {
	for _, c := range []struct {
		what, value string
		size        int
	}{
		{"81 bytes in utf-8", "ä" + strings.Repeat("a", 79), 120},
		{"27 bytes that are no characters", strings.Repeat("\xff", 27), 120},
		{"told words that are longer than what they tell", "ä" + strings.Repeat("=?us-ascii?Q??=", 7), 16},
		{"120 bytes that stay", strings.Repeat("a", 120), 120},
		{"a told word of 120 bytes that stays", "=?utf-8?B?" + strings.Repeat("w6TD", 27) + "?=", 120},
	} {
		got := impl.LegacyOf([]byte("A: " + c.value + "\n\nx"))
		if got.Code != impl.OK || len(got.Bytes) != c.size+6 {
			t.Errorf("%s: code %d, %q", c.what, got.Code, got.Bytes)
		}
		askSeen(t, "A: "+c.value+"\n\nx")
		askSeen(t, "A: b\nB: "+c.value)
	}
	for _, c := range []struct{ what, value string }{
		{"82 bytes in utf-8", "ä" + strings.Repeat("a", 80)},
		{"120 bytes in utf-8", "ä" + strings.Repeat("a", 118)},
		{"28 bytes that are no characters", strings.Repeat("\xff", 28)},
		{"more of them than a word can tell", strings.Repeat("\xff", 120)},
		{"60 characters of two bytes", strings.Repeat("ä", 60)},
	} {
		for _, data := range []string{"A: " + c.value, "A: " + c.value + "\n\nbody", "A: b\nB: " + c.value + "\nC: d\n\n", "A: " + c.value + "\nB: " + c.value + "\n\n"} {
			askBytes(t, c.what, impl.LegacyOf([]byte(data)), impl.ErrMany, "")
			askSeen(t, data)
		}
	}
	for n := range 119 {
		askSeen(t, "Subject: ä"+strings.Repeat("a", n)+"\n\n")
		askSeen(t, "Subject: "+strings.Repeat("\xff", n)+"\n\n")
	}
}

func TestMessagesThatGrow(t *testing.T) {
	for _, c := range []struct {
		begin string
		grows int
	}{
		{"Subject: ä\n\n", 14}, {"A:b\n\n", 1}, {"A: b\nC: \xff\n\n", 15}, {"A: b\n\n", 0}, {"\n", 0}, {"A: b\n c\n\n", -1}, {"A: ä\nB: ä\n\n", 28},
	} {
		room := min(impl.MaxBytes-len(c.begin), impl.MaxBytes-len(c.begin)-c.grows)
		full := c.begin + strings.Repeat("x", room)
		got := impl.LegacyOf([]byte(full))
		if got.Code != impl.OK || len(got.Bytes) != len(full)+c.grows || c.grows >= 0 && len(got.Bytes) != impl.MaxBytes {
			t.Errorf("%q: code %d, %d bytes", c.begin, got.Code, len(got.Bytes))
		}
		askSeen(t, full)
		askBytes(t, strconv.Quote(c.begin)+", one more byte", impl.LegacyOf([]byte(full+"x")), impl.ErrMany, "")
	}
	// Headers without an empty line, of which the last lines grow by it.
	fields := bytes.TrimRight(impl.PackHeader(someFields(2)).Bytes, "\n")
	for n := range 131 {
		data := string(fields) + "\nX: " + strings.Repeat("y", max(0, n-10))
		askSeen(t, data)
		askSeen(t, data+"\n")
		askSeen(t, data+"\n\n")
	}
	last := string(fields) + "\nLong-Name2: " + strings.Repeat("y", 120)
	for _, c := range []struct {
		data string
		code int64
	}{
		{last, impl.OK}, {last + "\n", impl.OK}, {last + "\n\n", impl.OK}, {last + "\n\nx", impl.ErrMany}, {strings.Replace(last, "2:", "22:", 1), impl.ErrMany}, {strings.Replace(last, "2:", "22:", 1) + "\n", impl.ErrMany},
	} {
		got := impl.LegacyOf([]byte(c.data))
		if got.Code != c.code || c.code == impl.OK && len(got.Bytes) != impl.MaxBytes {
			t.Errorf("%d bytes: code %d, %d bytes", len(c.data), got.Code, len(got.Bytes))
		}
		askSeen(t, c.data)
	}
	// A header that is too long by itself, of fields that are not.
	askBytes(t, "fields that grow", impl.LegacyOf([]byte(strings.Repeat("Long-Name: \xff\xff\xff\xff\xff\xff\xff\xff\n", 8))), impl.ErrMany, "")
}

func TestEachByteOfAValueIsTold(t *testing.T) {
	for one := range 256 {
		b := string([]byte{byte(one)})
		if one < 32 && one != 0 && one != '\t' && one != '\n' && one != 31 {
			continue
		}
		for _, value := range []string{b, "a" + b, b + "a", "a " + b + " b", "=?utf-8?Q?" + b + "?=", b + "=?utf-8?Q?a?=", "=?utf-8?Q?a?= " + b + " =?utf-8?Q?b?=", "\xc3" + b, b + "\xa4"} {
			askSeen(t, "Subject: "+value+"\n\nbody "+b)
			askSeen(t, "Subject: "+value)
		}
	}
	eachRow([]string{"=?utf-8?Q?a?=", " ", "\xc3", "\xa4", "b", "\n ", "\n"}, 4, func(value string) { askSeen(t, "Subject: "+value) })
}
