package tests

import (
	"regexp"
	"slices"
	"strconv"
	"strings"
	"testing"

	"loop.example/g00447/impl"
)

// someFields are n fields without a fault whose lines have 133 bytes each.
func someFields(n int) []impl.Field {
	var list []impl.Field
	for i := range n {
		value := strings.Repeat(string([]byte{byte('a' + i)}), 120)
		list = append(list, impl.Field{Name: "Long-Name" + strconv.Itoa(i), Value: value})
	}
	return list
}

func shortFields(n int) []impl.Field {
	var list []impl.Field
	for i := range n {
		list = append(list, impl.Field{Name: "N" + strconv.Itoa(i), Value: strconv.Itoa(i * i)})
	}
	return list
}

func field(name, value string) []impl.Field {
	return []impl.Field{{Name: name, Value: value}}
}

func askFault(t *testing.T, what string, list []impl.Field, want int64) {
	t.Helper()
	if got := impl.FieldsFault(list); got != want {
		t.Errorf("%s: fault %d, want %d", what, got, want)
	}
	// These tell the fault as their code, ahead of all else.
	if want != impl.OK {
		askBytes(t, what+", packed", impl.PackHeader(list), want, "")
		askText(t, what+", asked for one", impl.FieldOf(list, "none"), want, "")
	}
}

func askHeader(t *testing.T, what string, got impl.HeaderResult, code, at int64, fields []impl.Field) {
	t.Helper()
	if got.Code != code || got.At != at || !slices.Equal(got.Fields, fields) {
		t.Errorf("%s: got code %d, at %d, %q, want code %d, at %d, %q", what, got.Code, got.At, got.Fields, code, at, fields)
	}
}

func TestFieldsFault(t *testing.T) {
	wrong := impl.Field{Name: "a b"}
	for _, c := range []struct {
		what string
		list []impl.Field
		want int64
	}{
		{"nil", nil, impl.OK},
		{"an empty list", []impl.Field{}, impl.OK},
		{"one", field("Subject", "a: b"), impl.OK},
		{"MaxFields", shortFields(8), impl.OK},
		{"MaxFields that are too long together", someFields(8), impl.OK},
		{"one more", shortFields(9), impl.ErrMany},
		{"far more", shortFields(1000), impl.ErrMany},
		{"one more, the first one wrong", append([]impl.Field{wrong}, shortFields(8)...), impl.ErrMany},
		{"MaxFields, the last one wrong", append(shortFields(7), wrong), impl.ErrText},
		{"the first one wrong", append([]impl.Field{wrong}, shortFields(1)...), impl.ErrText},
		{"the same Name twice", append(field("A", "1"), field("A", "2")...), impl.OK},
		{"no Name", field("", "a"), impl.ErrText},
		{"a Name of 1 byte", field("a", ""), impl.OK},
		{"a Name of 30 bytes", field(strings.Repeat("a", 30), ""), impl.OK},
		{"a Name of 31 bytes", field(strings.Repeat("a", 31), ""), impl.ErrText},
		{"a Name of far more", field(strings.Repeat("a", 1<<16), ""), impl.ErrText},
		{"a Name of all kinds of bytes", field("-azAZ09", ""), impl.OK},
		{"a Name of `-` alone", field("-", ""), impl.OK},
		{"a Name of a digit alone", field("0", ""), impl.OK},
		{"a Name with a letter that is none of these", field("Ä", ""), impl.ErrText},
		{"no Value", field("a", ""), impl.OK},
		{"a Value of 120 bytes", field("a", strings.Repeat("b", 120)), impl.OK},
		{"a Value of 120 bytes above 127", field("a", strings.Repeat("\xff", 120)), impl.OK},
		{"a Value of 121 bytes", field("a", strings.Repeat("b", 121)), impl.ErrText},
		{"a Value of 61 letters of two bytes", field("a", strings.Repeat("ä", 61)), impl.ErrText},
		{"a Value of far more", field("a", strings.Repeat("b", 1<<16)), impl.ErrText},
		{"a Value of blanks", field("a", "   "), impl.OK},
		{"the zero value", []impl.Field{{}}, impl.ErrText},
	} {
		askFault(t, c.what, c.list, c.want)
	}
}

func TestBytesOfNamesAndValues(t *testing.T) {
	const ofNames = "abcdefghijklmnopqrstuvwxyzABCDEFGHIJKLMNOPQRSTUVWXYZ0123456789-"
	for one := range 256 {
		b := string([]byte{byte(one)})
		inName, inValue := int64(impl.ErrText), int64(impl.OK)
		if strings.Contains(ofNames, b) {
			inName = impl.OK
		}
		if one < 32 || one == 127 {
			inValue = impl.ErrText
		}
		for _, text := range []string{b, b + "a", "a" + b, "a" + b + "a"} {
			askFault(t, "Name "+strconv.Quote(text), field(text, "a"), inName)
			askFault(t, "Value "+strconv.Quote(text), field("a", text), inValue)
		}
	}
}

func TestPackHeader(t *testing.T) {
	for _, c := range []struct {
		list []impl.Field
		data string
	}{
		{nil, "\n"},
		{[]impl.Field{}, "\n"},
		{field("A", ""), "A: \n\n"},
		{field("A", "b"), "A: b\n\n"},
		{field("A", " b"), "A:  b\n\n"},
		{field("A", ": b :"), "A: : b :\n\n"},
		{field("x-Y", "\xff\x80~"), "x-Y: \xff\x80~\n\n"},
		{[]impl.Field{{Name: "B", Value: "1"}, {Name: "A", Value: "2"}, {Name: "B", Value: "3"}}, "B: 1\nA: 2\nB: 3\n\n"},
		{shortFields(8), "N0: 0\nN1: 1\nN2: 4\nN3: 9\nN4: 16\nN5: 25\nN6: 36\nN7: 49\n\n"},
	} {
		askBytes(t, strconv.Quote(c.data), impl.PackHeader(c.list), impl.OK, c.data)
	}
}

func TestPackHeaderBounds(t *testing.T) {
	full := someFields(3)
	longer := someFields(3)
	longer[0].Name += "x"
	wrong := someFields(4)
	wrong[3].Value = "\n"
	if got := impl.PackHeader(full); got.Code != impl.OK || len(got.Bytes) != impl.MaxBytes {
		t.Errorf("MaxBytes: code %d, %d bytes", got.Code, len(got.Bytes))
	}
	askBytes(t, "one more byte", impl.PackHeader(longer), impl.ErrMany, "")
	askBytes(t, "MaxFields of the longest", impl.PackHeader(someFields(8)), impl.ErrMany, "")
	askBytes(t, "too many bytes, and a wrong Value", impl.PackHeader(wrong), impl.ErrText, "")
	askBytes(t, "too many fields, and bytes", impl.PackHeader(someFields(9)), impl.ErrMany, "")
}

func TestFieldsAreReadBack(t *testing.T) {
	lists := [][]impl.Field{
		nil, field("A", ""), field("A", " "), field("A", "  b "), field("A", ":"), field("A", ": b"), field("A", "B: c"),
		field("-", "\x80\xff~"), field(strings.Repeat("Z", 30), strings.Repeat("ä", 60)),
		append(field("A", ""), field("A", "")...), shortFields(8), someFields(2), someFields(3),
	}
	behind := []string{"", "z", "\n", "\n\n", " z", "\tz", "A: b\n", ": c", "\x00\xff", "\x7f", strings.Repeat("z", 100), strings.Repeat("\n", 100)}
	for i, list := range lists {
		packed := impl.PackHeader(list)
		if packed.Code != impl.OK {
			t.Fatalf("%d: code %d", i, packed.Code)
		}
		for _, tail := range behind {
			data := slices.Concat(packed.Bytes, []byte(tail))
			what := strconv.Quote(string(data))
			if len(data) > impl.MaxBytes {
				askHeader(t, what, impl.ParseHeader(data), impl.ErrMany, 0, nil)
				continue
			}
			askHeader(t, what, impl.ParseHeader(data), impl.OK, int64(len(packed.Bytes)), list)
		}
	}
	// Each byte that a Value may have, at its beginning, in it and at its end.
	for one := 32; one < 256; one++ {
		b := string([]byte{byte(one)})
		for _, value := range []string{b, b + "a", "a" + b, "a" + b + "a", b + b} {
			if one == 127 {
				continue
			}
			packed := impl.PackHeader(field("A", value))
			askHeader(t, strconv.Quote(value), impl.ParseHeader(packed.Bytes), impl.OK, int64(len(packed.Bytes)), field("A", value))
		}
	}
}

func TestParseHeaderEdges(t *testing.T) {
	two := []impl.Field{{Name: "A", Value: "b"}, {Name: "C", Value: "d"}}
	for _, c := range []struct {
		data   string
		at     int64
		fields []impl.Field
	}{
		// nothing at all, and the empty line alone
		{"", 0, nil},
		{"\n", 1, nil},
		{"\n\n", 1, nil},
		{"\nA: b\n\n", 1, nil},
		{"\nno header", 1, nil},
		// with an empty line behind it, without one, without a line feed
		{"A: b\n\n", 6, field("A", "b")},
		{"A: b\n\nC: d\n", 6, field("A", "b")},
		{"A: b\n\n\n", 6, field("A", "b")},
		{"A: b\n", 5, field("A", "b")},
		{"A: b", 4, field("A", "b")},
		{"A: b\nC: d\n\nx", 11, two},
		{"A: b\nC: d\n", 10, two},
		{"A: b\nC: d", 9, two},
		// no blank behind `:`, one, two, and no Value
		{"A:b\n\n", 5, field("A", "b")},
		{"A:  b\n\n", 7, field("A", " b")},
		{"A:   b\n\n", 8, field("A", "  b")},
		{"A:\n\n", 4, field("A", "")},
		{"A: \n\n", 5, field("A", "")},
		{"A:  \n\n", 6, field("A", " ")},
		{"A:", 2, field("A", "")},
		{"A: ", 3, field("A", "")},
		{"A:b ", 4, field("A", "b ")},
		// the first `:` counts
		{"A: b: c\n\n", 9, field("A", "b: c")},
		{"A::\n\n", 5, field("A", ":")},
		{"A:: b\n\n", 7, field("A", ": b")},
		// lines that go on
		{"A: b\n c\n\n", 9, field("A", "b c")},
		{"A: b\n c", 7, field("A", "b c")},
		{"A: b\n  c\n\n", 10, field("A", "b  c")},
		{"A: b\n c\n d\n  e\n\nf", 16, field("A", "b c d  e")},
		{"A: b\n c: d\n\n", 12, field("A", "b c: d")},
		{"A: b\n \n\n", 8, field("A", "b ")},
		{"A: b\n \n c\n\n", 11, field("A", "b  c")},
		{"A: b\n ", 6, field("A", "b ")},
		{"A: b \n c\n\n", 10, field("A", "b  c")},
		{"A:\n b\n\n", 7, field("A", " b")},
		{"A: \n b\n\n", 8, field("A", " b")},
		{"A:\n  b\n\n", 8, field("A", "  b")},
		{"A:\n :\n\n", 7, field("A", " :")},
		{"A: b\n c\nD: e\n f\n\n", 17, []impl.Field{{Name: "A", Value: "b c"}, {Name: "D", Value: "e f"}}},
		{"A: b\n\n c", 6, field("A", "b")},
		{"A: b\n\n\tc", 6, field("A", "b")},
		// a Name that is there twice
		{"A: b\na: c\nA: d\n\n", 16, []impl.Field{{Name: "A", Value: "b"}, {Name: "a", Value: "c"}, {Name: "A", Value: "d"}}},
		{"A: \x80\xff~\n\n", 8, field("A", "\x80\xff~")},
	} {
		askHeader(t, strconv.Quote(c.data), impl.ParseHeader([]byte(c.data)), impl.OK, c.at, c.fields)
	}
}

func TestParseHeaderOfWrongForms(t *testing.T) {
	for _, data := range []string{
		// nothing ahead that a line could go on
		" ", "\t", " A: b\n\n", "\tA: b\n\n", " \n\n", " \nA: b\n\n", "\t\n",
		// no `:`
		"A", "A\n\n", "A b\n\n", "abc\n", "A: b\nC\n\n", "A: b\nC", "A\n: b\n\n", "C\nA: b\n\n", "A: b\n c\nD\n\n",
		// Names that are none
		":", ": b\n\n", ":b", "A: b\n: c\n\n", "A : b\n\n", "A\t: b\n\n", "a_b: c\n\n", "Ä: b\n\n", "\x00: b\n\n", "\r\n\r\n", "A: b\n\r\n",
		strings.Repeat("a", 31) + ": b\n\n",
		// Values that are none
		"A: b\x1f\n\n", "A: \x7f\n\n", "A: b\r\n\n", "A:\tb\n\n", "A: b\tc\n\n", "A: \x00\n\n",
		"A: b\n\tc\n\n", "A: b\n\t\n\n", "A: b\n\t", "A: b\n c\n\td\n\n", "A: b\n \tc\n\n", "A: b\n c\x1f\n\n",
		"A: " + strings.Repeat("b", 121) + "\n\n", "A:" + strings.Repeat("b", 121), "A: " + strings.Repeat("b", 100) + "\n " + strings.Repeat("c", 20),
		// more than MaxFields
		strings.Repeat("A: b\n", 9), strings.Repeat("A: b\n", 9) + "\nc", strings.Repeat("A:\n", 133), strings.Repeat(":\n", 200),
		// a wrong line behind more than MaxFields, and the other way round
		strings.Repeat("A: b\n", 9) + "C\n\n", "C\n" + strings.Repeat("A: b\n", 9),
	} {
		askHeader(t, strconv.Quote(data), impl.ParseHeader([]byte(data)), impl.ErrForm, 0, nil)
	}
}

func TestParseHeaderBounds(t *testing.T) {
	name, value := strings.Repeat("a", 30), strings.Repeat("b", 120)
	longest := name + ": " + value + "\n\n"
	askHeader(t, "the longest Name and Value", impl.ParseHeader([]byte(longest)), impl.OK, 154, field(name, value))
	went := "A: " + strings.Repeat("b", 100) + "\n " + strings.Repeat("c", 19) + "\n\n"
	askHeader(t, "a Value of 120 bytes in two lines", impl.ParseHeader([]byte(went)), impl.OK, int64(len(went)), field("A", strings.Repeat("b", 100)+" "+strings.Repeat("c", 19)))
	packed := string(impl.PackHeader(shortFields(8)).Bytes)
	askHeader(t, "MaxFields", impl.ParseHeader([]byte(packed)), impl.OK, int64(len(packed)), shortFields(8))

	full := impl.PackHeader(someFields(3)).Bytes
	askHeader(t, "a header of MaxBytes", impl.ParseHeader(full), impl.OK, impl.MaxBytes, someFields(3))
	askHeader(t, "one more byte behind it", impl.ParseHeader(append(full, 'z')), impl.ErrMany, 0, nil)
	body := "A: b\n\n" + strings.Repeat("\xff", impl.MaxBytes-6)
	askHeader(t, "MaxBytes with a body", impl.ParseHeader([]byte(body)), impl.OK, 6, field("A", "b"))
	askHeader(t, "one more", impl.ParseHeader([]byte(body+"\n")), impl.ErrMany, 0, nil)
	for _, wrong := range []string{" ", ":", "\n", "a", "\x00"} {
		askHeader(t, "too many of "+strconv.Quote(wrong), impl.ParseHeader([]byte(strings.Repeat(wrong, impl.MaxBytes+1))), impl.ErrMany, 0, nil)
		askHeader(t, "far too many of "+strconv.Quote(wrong), impl.ParseHeader([]byte(strings.Repeat(wrong, 1<<16))), impl.ErrMany, 0, nil)
	}
}

var fieldForm = regexp.MustCompile(`\A([A-Za-z0-9-]{1,30}): ?([^\n]*(?:\n[ \t][^\n]*)*)(?:\n|\z)`)

// wantHeader cuts the header off as a whole first, and then reads field by field, however many lines one has.
func wantHeader(data string) (fields []impl.Field, at, code int64) {
	head, at := data, int64(len(data))
	if strings.HasPrefix(data, "\n") {
		head, at = "", 1
	} else if end := strings.Index(data, "\n\n"); end >= 0 {
		head, at = data[:end+1], int64(end+2)
	}
	for head != "" {
		found := fieldForm.FindStringSubmatch(head)
		if found == nil {
			return nil, 0, impl.ErrForm
		}
		value := strings.ReplaceAll(found[2], "\n", "")
		if len(value) > 120 || strings.ContainsFunc(value, func(r rune) bool { return r < 32 || r == 127 }) || len(fields) == 8 {
			return nil, 0, impl.ErrForm
		}
		fields = append(fields, impl.Field{Name: found[1], Value: value})
		head = head[len(found[0]):]
	}
	return fields, at, impl.OK
}

func TestParseHeaderReadsOnlyItsForm(t *testing.T) {
	ask := func(data string) {
		fields, at, code := wantHeader(data)
		got := impl.ParseHeader([]byte(data))
		askHeader(t, strconv.Quote(data), got, code, at, fields)
		if got.Code == impl.OK && impl.FieldsFault(got.Fields) != impl.OK {
			t.Errorf("%q: fields with a fault are read", data)
		}
	}
	eachText("a: \n\t", 6, ask)
	eachText("A:\n \xff", 6, ask)
	eachText("-:\n\x1f\x7f", 5, ask)
	for _, lines := range []string{"A: b\nC:d\n e\n f\n\nx", "A:\n b\n\n", "N: 1\nN: 2\nN: 3\nN: 4\nN: 5\nN: 6\nN: 7\nN: 8\n\n"} {
		for at := range len(lines) {
			ask(lines[:at])
			ask(lines[at:])
			ask(lines[:at] + lines[at+1:])
			for _, b := range []string{"\n", "\n\n", " ", "\t", ":", "a", "\x1f", "\x7f", "\n ", "\n\t", "\nX:", "\nX"} {
				ask(lines[:at] + b + lines[at:])
				ask(lines[:at] + b + lines[at+1:])
			}
		}
	}
}

func TestFieldOf(t *testing.T) {
	list := []impl.Field{{Name: "Subject", Value: "one"}, {Name: "x-9", Value: ""}, {Name: "SUBJECT", Value: "two"}, {Name: "To", Value: " a: b"}}
	for _, c := range []struct {
		name string
		code int64
		text string
	}{
		{"Subject", impl.OK, "one"},
		{"subject", impl.OK, "one"},
		{"SUBJECT", impl.OK, "one"},
		{"sUBJECt", impl.OK, "one"},
		{"x-9", impl.OK, ""},
		{"X-9", impl.OK, ""},
		{"to", impl.OK, " a: b"},
		{"", impl.ErrNone, ""},
		{"Subjec", impl.ErrNone, ""},
		{"Subjects", impl.ErrNone, ""},
		{"ubject", impl.ErrNone, ""},
		{"Subject:", impl.ErrNone, ""},
		{"Subject ", impl.ErrNone, ""},
		{" Subject", impl.ErrNone, ""},
		{"x_9", impl.ErrNone, ""},
		{"X\r9", impl.ErrNone, ""},
		{"From", impl.ErrNone, ""},
		{"\u017fubject", impl.ErrNone, ""},
		{"sub\xffect", impl.ErrNone, ""},
		{strings.Repeat("a", 1<<16), impl.ErrNone, ""},
	} {
		askText(t, strconv.Quote(c.name), impl.FieldOf(list, c.name), c.code, c.text)
	}
	for _, name := range []string{"", "A"} {
		askText(t, "of nothing", impl.FieldOf(nil, name), impl.ErrNone, "")
		askText(t, "of an empty list", impl.FieldOf([]impl.Field{}, name), impl.ErrNone, "")
	}
	askText(t, "the last of MaxFields", impl.FieldOf(shortFields(8), "n7"), impl.OK, "49")
}

func TestFieldOfAsksItsCodesInOrder(t *testing.T) {
	wrong := append(field("A", "b"), impl.Field{Name: "C", Value: "\n"})
	for _, name := range []string{"A", "C", "N0", "none", ""} {
		askText(t, "too many", impl.FieldOf(shortFields(9), name), impl.ErrMany, "")
		askText(t, "too many, and a wrong one", impl.FieldOf(append(shortFields(8), wrong...), name), impl.ErrMany, "")
		askText(t, "a wrong one", impl.FieldOf(wrong, name), impl.ErrText, "")
	}
}

func TestFieldsOfAHeaderAreFound(t *testing.T) {
	for _, list := range [][]impl.Field{shortFields(8), someFields(3), field("A", "")} {
		read := impl.ParseHeader(impl.PackHeader(list).Bytes)
		for _, f := range list {
			for _, name := range []string{f.Name, strings.ToUpper(f.Name), strings.ToLower(f.Name)} {
				askText(t, name, impl.FieldOf(read.Fields, name), impl.OK, f.Value)
			}
		}
	}
}
