package tests

import (
	"regexp"
	"slices"
	"strconv"
	"strings"
	"testing"

	"loop.example/g00447/impl"
)

// head is the header of a message with parts; its mark is told last.
func head(mark string) string {
	return "Content-Type: multipart/mixed; boundary=" + mark + "\n\n"
}

// multi is a message with these parts, each with its own header, or at least the empty line behind it.
func multi(mark string, parts ...string) string {
	text := head(mark)
	for _, part := range parts {
		text += "--" + mark + "\n" + part + "\n"
	}
	return text + "--" + mark + "--\n"
}

// eachRow calls ask with every text of up to most words, with nothing between them.
func eachRow(words []string, most int, ask func(text string)) {
	var letters []byte
	for i := range words {
		letters = append(letters, byte(i))
	}
	eachText(string(letters), most, func(row string) {
		var text strings.Builder
		for i := range len(row) {
			text.WriteString(words[row[i]])
		}
		ask(text.String())
	})
}

func smallAscii(text string) string {
	return strings.Map(func(r rune) rune {
		if 'A' <= r && r <= 'Z' {
			return r + 32
		}
		return r
	}, text)
}

var pieceForm = regexp.MustCompile(`[^;]+`)

func wantPieces(value string) []string {
	pieces := pieceForm.FindAllString(value, -1)
	for i, piece := range pieces {
		for strings.HasPrefix(piece, " ") || strings.HasPrefix(piece, "\t") {
			piece = piece[1:]
		}
		for strings.HasSuffix(piece, " ") || strings.HasSuffix(piece, "\t") {
			piece = piece[:len(piece)-1]
		}
		pieces[i] = piece
	}
	return pieces
}

// wantBehind is what stands behind a beginning in the first piece that has it.
func wantBehind(value, begin string) (string, bool) {
	for _, piece := range wantPieces(value) {
		if strings.HasPrefix(smallAscii(piece), begin) {
			return piece[len(begin):], true
		}
	}
	return "", false
}

func wantType(value string) impl.Part {
	first := ""
	if pieces := wantPieces(value); len(pieces) > 0 {
		first = smallAscii(pieces[0])
	}
	if strings.HasPrefix(first, "multipart/") {
		return impl.Part{Kind: impl.PartMulti}
	}
	if !strings.HasPrefix(first, "text/") {
		return impl.Part{Kind: impl.PartOther}
	}
	name, ok := wantBehind(value, "charset=")
	if !ok {
		return impl.Part{Kind: impl.PartText, Charset: impl.CsAscii}
	}
	names := []string{"", "us-ascii", "iso-8859-1", "iso-8859-5", "utf-8", "utf-16"}
	return impl.Part{Kind: impl.PartText, Charset: int64(max(0, slices.Index(names, smallAscii(name))))}
}

// node is a part with those in it, in a message that is cut up as a whole, however many there are.
type node struct {
	part  impl.Part
	inner []node
}

func wantNode(data string, from, to, above int) node {
	fields, at, code := wantHeader(data[from:to])
	if code != impl.OK {
		return node{part: impl.Part{Kind: impl.PartOther, Coding: impl.CodingPlain, From: int64(from), To: int64(to)}}
	}
	kind, coding, value := impl.Part{Kind: impl.PartText, Charset: impl.CsAscii}, int64(impl.CodingPlain), ""
	for _, f := range slices.Backward(fields) {
		switch smallAscii(f.Name) {
		case "content-type":
			kind, value = wantType(f.Value), f.Value
		case "content-transfer-encoding":
			codings := map[string]int64{"base64": impl.CodingBase, "quoted-printable": impl.CodingQuoted}
			coding = max(impl.CodingPlain, codings[smallAscii(f.Value)])
		}
	}
	begin := from + int(at)
	n := node{part: impl.Part{Kind: kind.Kind, Charset: kind.Charset, Coding: coding, From: int64(begin), To: int64(to)}}
	mark, _ := wantBehind(value, "boundary=")
	if kind.Kind != impl.PartMulti || len(mark) < 1 || len(mark) > 20 || above > 1 {
		return n
	}
	lines := regexp.MustCompile(`(?m)^--`+regexp.QuoteMeta(mark)+`(--)?$`).FindAllStringSubmatchIndex(data[begin:to], -1)
	for i, line := range lines {
		if line[2] >= 0 {
			break
		}
		first, last := min(begin+line[1]+1, to), to
		if i+1 < len(lines) {
			last = max(first, begin+lines[i+1][0]-1)
		}
		n.inner = append(n.inner, wantNode(data, first, last, above+1))
	}
	return n
}

func (n node) appendTo(list []impl.Part, up, number int64) []impl.Part {
	place := int64(len(list))
	n.part.Up, n.part.Number = up, number
	list = append(list, n.part)
	for i, inner := range n.inner {
		list = inner.appendTo(list, place, int64(i)+1)
	}
	return list
}

func wantParts(data string) []impl.Part {
	list := wantNode(data, 0, len(data), 0).appendTo(nil, -1, 0)
	return list[:min(len(list), impl.MaxParts)]
}

func askParts(t *testing.T, data string, want []impl.Part) []impl.Part {
	t.Helper()
	got := impl.ParseParts([]byte(data))
	if got.Code != impl.OK || !slices.Equal(got.Parts, want) {
		t.Errorf("%q: got code %d %+v, want %+v", data, got.Code, got.Parts, want)
	}
	askLies(t, data, got.Parts)
	return got.Parts
}

// askLies asks promise 6 of the parts of a message: each one lies in that in which it is, behind those ahead of it there.
func askLies(t *testing.T, data string, parts []impl.Part) {
	t.Helper()
	ends, counts := map[int64]int64{}, map[int64]int64{}
	for i, p := range parts {
		from, to := int64(0), int64(len(data))
		if i > 0 && (p.Up < 0 || p.Up >= int64(i) || parts[p.Up].Kind != impl.PartMulti) || i == 0 && (p.Up != -1 || p.Number != 0) {
			t.Errorf("%q: part %d is in %d", data, i, p.Up)
			continue
		}
		if i > 0 {
			from, to = max(parts[p.Up].From, ends[p.Up]), parts[p.Up].To
			counts[p.Up]++
			ends[p.Up] = p.To
		}
		if p.From < from || p.From > p.To || p.To > to || p.Number != counts[p.Up] {
			t.Errorf("%q: part %d has Number %d, from %d to %d, want Number %d, in %d to %d", data, i, p.Number, p.From, p.To, counts[p.Up], from, to)
		}
	}
}

// askTold asks for the parts behind the whole, each told as its path, the letter of its kind and its body.
func askTold(t *testing.T, data string, want ...string) {
	t.Helper()
	parts := askParts(t, data, wantParts(data))
	if len(parts) == 0 {
		return
	}
	var told []string
	paths := []string{""}
	for _, p := range parts[1:] {
		path := strconv.FormatInt(p.Number, 10)
		if p.Up > 0 {
			path = paths[p.Up] + "." + path
		}
		paths = append(paths, path)
		told = append(told, path+" "+[]string{"", "text", "multi", "other"}[p.Kind]+" "+data[p.From:p.To])
	}
	if !slices.Equal(told, want) {
		t.Errorf("%q: told %q, want %q", data, told, want)
	}
}

func TestTypeOf(t *testing.T) {
	text := func(cs int64) impl.Part { return impl.Part{Kind: impl.PartText, Charset: cs} }
	multiPart, other := impl.Part{Kind: impl.PartMulti}, impl.Part{Kind: impl.PartOther}
	for _, c := range []struct {
		value string
		want  impl.Part
	}{
		// nothing in it, `;` alone, several of them
		{"", other}, {" ", other}, {"\t ", other}, {";", other}, {";;;", other}, {" ; ; ", other},
		{";text/plain", text(impl.CsAscii)}, {";;;text/plain;;", text(impl.CsAscii)}, {";multipart/x", multiPart},
		{"text/plain;;;charset=utf-8", text(impl.CsUtf8)}, {"text/plain; ; ;charset=utf-8;;", text(impl.CsUtf8)},
		// blanks alone are a piece, and the first one
		{" ;text/plain", other}, {"\t; text/plain", other}, {"; ;multipart/x", other},
		// the kinds
		{"text/plain", text(impl.CsAscii)}, {"text/", text(impl.CsAscii)}, {"text/;", text(impl.CsAscii)}, {"TEXT/", text(impl.CsAscii)}, {"tExT/HTML", text(impl.CsAscii)},
		{"text/a/b c=d", text(impl.CsAscii)}, {"text//", text(impl.CsAscii)}, {"text/ plain", text(impl.CsAscii)},
		{"text", other}, {"text;", other}, {"text ", other}, {"text;/plain", other}, {"text /plain", other}, {"te xt/plain", other}, {"/plain", other}, {"xtext/plain", other}, {"text\\plain", other},
		{"multipart/mixed", multiPart}, {"multipart/", multiPart}, {"MULTIPART/", multiPart}, {"MultiPart/Mixed; boundary=b", multiPart}, {"multipart/mixed; charset=utf-8", multiPart},
		{"multipart", other}, {"multipart;", other}, {"multi/part", other}, {"xmultipart/mixed", other}, {"multipart /mixed", other},
		{"image/png", other}, {"message/rfc822", other}, {"application/text/", other}, {"image/png; charset=utf-8", other}, {"image/png; text/plain", other}, {"x;multipart/mixed", other}, {"\xff", other}, {"te\u017ft/", other}, {"mult\u0130part/x", other},
		// blanks and tabs around the pieces
		{" text/plain", text(impl.CsAscii)}, {"\t text/plain \t", text(impl.CsAscii)}, {" multipart/mixed\t", multiPart}, {"\ntext/plain", other}, {"\u00a0text/plain", other},
		{"text/plain ; \t charset=utf-8 \t ", text(impl.CsUtf8)}, {"text/plain;\tcharset=utf-8\t;", text(impl.CsUtf8)},
		{"text/plain;charset= utf-8", text(0)}, {"text/plain;charset =utf-8", text(impl.CsAscii)}, {"text/plain;charset=\tutf-8", text(0)}, {"text/plain;charset=utf-8\n", text(0)}, {"text/plain;\ncharset=utf-8", text(impl.CsAscii)},
		// charsets that there are, in letters of either size
		{"text/x;charset=us-ascii", text(impl.CsAscii)}, {"text/x;charset=ISO-8859-1", text(impl.CsLatin)}, {"text/x;CHARSET=Iso-8859-5", text(impl.CsCyrillic)}, {"text/x;Charset=UTF-8", text(impl.CsUtf8)}, {"text/x;cHARSET=utf-16", text(impl.CsUtf16)},
		// that there are not, nothing behind it, twice, not at all
		{"text/x;charset=bad", text(0)}, {"text/x;charset=utf-7", text(0)}, {"text/x;charset=\"utf-8\"", text(0)}, {"text/x;charset=utf-8 x", text(0)}, {"text/x;charset==utf-8", text(0)},
		{"text/x;charset=", text(0)}, {"text/x;charset=;", text(0)}, {"text/x;charset= ;charset=utf-8", text(0)}, {"text/x;charset=;utf-8", text(0)},
		{"text/x;charset=utf-8;charset=utf-16", text(impl.CsUtf8)}, {"text/x;charset=bad;charset=utf-8", text(0)}, {"text/x;charset=utf-16;charset=bad", text(impl.CsUtf16)},
		{"text/x;charset", text(impl.CsAscii)}, {"text/x;chars=utf-8", text(impl.CsAscii)}, {"text/x;xcharset=utf-8", text(impl.CsAscii)}, {"text/x;x charset=utf-8", text(impl.CsAscii)}, {"text/x;utf-8", text(impl.CsAscii)}, {"text/x;char\u017fet=utf-8", text(impl.CsAscii)},
		{"text/x;format=flowed;charset=utf-8;x=y", text(impl.CsUtf8)}, {"text/charset=utf-8", text(impl.CsAscii)}, {"text/x charset=utf-8", text(impl.CsAscii)},
		// one ahead of the kind is no piece behind it, as it is the kind then
		{"charset=utf-8;text/x", other}, {"charset=utf-8", other},
	} {
		if got := impl.TypeOf(c.value); got != c.want {
			t.Errorf("%q: got %+v, want %+v", c.value, got, c.want)
		}
		if c.want != wantType(c.value) {
			t.Errorf("%q: the test's own reading is %+v, want %+v", c.value, wantType(c.value), c.want)
		}
	}
}

func TestTypeOfEachByte(t *testing.T) {
	for one := range 256 {
		b := string([]byte{byte(one)})
		for _, value := range []string{b, b + "text/x", "text" + b, "text" + b + "x", "text/" + b, "text/x" + b + "charset=utf-8", "text/x;" + b + "charset=utf-8", "text/x;charset" + b + "utf-8", "text/x;charset=utf-8" + b, "text/x;" + b + "harset=utf-8", b + "ultipart/x", "multipart" + b} {
			if got := impl.TypeOf(value); got != wantType(value) {
				t.Errorf("%q: got %+v, want %+v", value, got, wantType(value))
			}
		}
	}
}

func TestTypeOfReadsOnlyItsForm(t *testing.T) {
	words := []string{";", " ", "\t", "text/", "Multipart/", "charset=", "CHARSET=", "utf-16", "x"}
	eachRow(words, 5, func(value string) {
		if got := impl.TypeOf(value); got != wantType(value) && !t.Failed() {
			t.Errorf("%q: got %+v, want %+v", value, got, wantType(value))
		}
	})
}

func TestTypeOfLongValues(t *testing.T) {
	const n = 1 << 18
	for _, c := range []struct {
		value string
		want  impl.Part
	}{
		{strings.Repeat(";", n) + "text/x", impl.Part{Kind: impl.PartText, Charset: impl.CsAscii}},
		{strings.Repeat(" ", n) + "text/x;" + strings.Repeat("a;", n) + strings.Repeat("\t", n) + "charset=utf-8", impl.Part{Kind: impl.PartText, Charset: impl.CsUtf8}},
		{"text/x;charset=" + strings.Repeat("utf-8", n), impl.Part{Kind: impl.PartText}},
		{"multipart/" + strings.Repeat("x", n), impl.Part{Kind: impl.PartMulti}},
		{strings.Repeat("x", n), impl.Part{Kind: impl.PartOther}},
		{strings.Repeat("\xff", n), impl.Part{Kind: impl.PartOther}},
	} {
		if got := impl.TypeOf(c.value); got != c.want {
			t.Errorf("%.20q: got %+v, want %+v", c.value, got, c.want)
		}
	}
}

func TestPlacesOfParts(t *testing.T) {
	askParts(t, head("b")+"--b\n\none\n--b--\n", []impl.Part{
		{Kind: impl.PartMulti, Coding: impl.CodingPlain, From: 43, To: 58, Up: -1},
		{Kind: impl.PartText, Charset: impl.CsAscii, Coding: impl.CodingPlain, From: 48, To: 51, Up: 0, Number: 1},
	})
	// Parts of nothing begin and end behind the line of their mark.
	askParts(t, head("b")+"--b\n--b\n\n--b", []impl.Part{
		{Kind: impl.PartMulti, Coding: impl.CodingPlain, From: 43, To: 55, Up: -1},
		{Kind: impl.PartText, Charset: impl.CsAscii, Coding: impl.CodingPlain, From: 47, To: 47, Up: 0, Number: 1},
		{Kind: impl.PartText, Charset: impl.CsAscii, Coding: impl.CodingPlain, From: 51, To: 51, Up: 0, Number: 2},
		{Kind: impl.PartText, Charset: impl.CsAscii, Coding: impl.CodingPlain, From: 55, To: 55, Up: 0, Number: 3},
	})
	inner := "Content-Type: multipart/x;boundary=c\n\n--c\n\nx\n--c\nContent-Transfer-Encoding: Base64\n\nYQ==\n--c--"
	askParts(t, head("b")+"--b\n"+inner+"\n--b\nno header\n--b--", []impl.Part{
		{Kind: impl.PartMulti, Coding: impl.CodingPlain, From: 43, To: 161, Up: -1},
		{Kind: impl.PartMulti, Coding: impl.CodingPlain, From: 85, To: 141, Up: 0, Number: 1},
		{Kind: impl.PartText, Charset: impl.CsAscii, Coding: impl.CodingPlain, From: 90, To: 91, Up: 1, Number: 1},
		{Kind: impl.PartText, Charset: impl.CsAscii, Coding: impl.CodingBase, From: 131, To: 135, Up: 1, Number: 2},
		{Kind: impl.PartOther, Coding: impl.CodingPlain, From: 146, To: 155, Up: 0, Number: 2},
	})
}

func TestHeadersOfParts(t *testing.T) {
	text := impl.Part{Kind: impl.PartText, Charset: impl.CsAscii, Coding: impl.CodingPlain}
	other := impl.Part{Kind: impl.PartOther, Coding: impl.CodingPlain}
	with := func(kind, cs, coding int64) impl.Part { return impl.Part{Kind: kind, Charset: cs, Coding: coding} }
	for _, c := range []struct {
		data, body string
		want       impl.Part
	}{
		// no header at all, none but the empty line, one without the empty line
		{"", "", text}, {"\n", "", text}, {"\n\n", "\n", text}, {"\nbody", "body", text}, {"\nA: b\n\n", "A: b\n\n", text},
		{"A: b", "", text}, {"A: b\n", "", text}, {"A: b\n\n", "", text}, {"A: b\n\nbody\n", "body\n", text}, {"Content-Type: image/x", "", other}, {"Content-Type: image/x\n", "", other},
		// a header with a fault: all of it is the body, whatever it tells
		{"body", "body", other}, {"body\n\nmore", "body\n\nmore", other}, {" A: b\n\n", " A: b\n\n", other}, {"A: b\nbody\n", "A: b\nbody\n", other}, {"A: b\n\tc\n\nbody", "A: b\n\tc\n\nbody", other},
		{"Content-Type: text/x\nContent-Transfer-Encoding: base64\nwrong\n\nYQ==", "Content-Type: text/x\nContent-Transfer-Encoding: base64\nwrong\n\nYQ==", other},
		{strings.Repeat("A: b\n", 9) + "\nx", strings.Repeat("A: b\n", 9) + "\nx", other}, {strings.Repeat("A: b\n", 8) + "\nx", "x", text}, {"A: \x7f\n\n", "A: \x7f\n\n", other},
		// Content-Type
		{"Content-Type: text/x; charset=utf-16\n\nab", "ab", with(1, 5, 1)}, {"CONTENT-TYPE:TEXT/X;CHARSET=BAD\n\n", "", with(1, 0, 1)}, {"content-type: text/x;\n charset=iso-8859-5\n\n\n", "\n", with(1, 3, 1)},
		{"Content-Type:\n\nx", "x", other}, {"Content-Type: ;\n\nx", "x", other}, {"Content-Type: multipart/x\n\nx", "x", with(2, 0, 1)}, {"Content-Types: image/x\n\n", "", text}, {"XContent-Type: image/x\n\n", "", text},
		// the first of two counts
		{"Content-Type: image/x\nContent-Type: text/x\n\n", "", other}, {"Content-Type: text/x;charset=utf-8\ncontent-type: image/x\n\n", "", with(1, 4, 1)}, {"Content-Type: \nContent-Type: text/x\n\n", "", other},
		// each coding
		{"Content-Transfer-Encoding: base64\n\nYQ==", "YQ==", with(1, 1, 2)}, {"content-transfer-encoding:BASE64\n\n", "", with(1, 1, 2)}, {"Content-Transfer-Encoding: Base64", "", with(1, 1, 2)},
		{"Content-Transfer-Encoding: quoted-printable\n\n=41", "=41", with(1, 1, 3)}, {"Content-Transfer-Encoding: Quoted-PRINTABLE\n\n", "", with(1, 1, 3)}, {"Content-Transfer-Encoding: quoted-\n printable\n\n", "", text},
		{"Content-Transfer-Encoding: 7bit\n\nx", "x", text}, {"Content-Transfer-Encoding: binary\n\n", "", text}, {"Content-Transfer-Encoding: x-nobody-knows\n\n", "", text}, {"Content-Transfer-Encoding:\n\n", "", text},
		{"Content-Transfer-Encoding: base64 \n\n", "", text}, {"Content-Transfer-Encoding:  base64\n\n", "", text}, {"Content-Transfer-Encoding: base64;\n\n", "", text}, {"Content-Transfer-Encoding: base6\n\n", "", text}, {"Content-Transfer-Encoding: ba\u017fe64\n\n", "", text}, {"Content-Transfer-Encoding: quoted-pr\u0130ntable\n\n", "", text},
		{"Content-Transfer-Encoding: quoted\nContent-Transfer-Encoding: base64\n\n", "", text}, {"Content-Transfer-Encoding: base64\nContent-Transfer-Encoding: quoted-printable\n\n", "", with(1, 1, 2)},
		{"Content-Encoding: base64\n\n", "", text}, {"Content-Transfer-Encoding: base64\nContent-Type: image/x\n\n", "", with(3, 0, 2)}, {"Content-Type: multipart/x\nContent-Transfer-Encoding: QUOTED-printable\n\n", "", with(2, 0, 3)},
	} {
		whole := c.want
		whole.From, whole.To, whole.Up = int64(len(c.data)-len(c.body)), int64(len(c.data)), -1
		askParts(t, c.data, []impl.Part{whole})
		// A part of a message is read as a message is.
		begin := head("b") + "--b\n"
		data := begin + c.data + "\n--b--"
		inner := whole
		inner.From += int64(len(begin))
		inner.To += int64(len(begin))
		inner.Up, inner.Number = 0, 1
		askParts(t, data, []impl.Part{{Kind: impl.PartMulti, Coding: impl.CodingPlain, From: int64(len(head("b"))), To: int64(len(data)), Up: -1}, inner})
	}
}

func TestMarks(t *testing.T) {
	long := strings.Repeat("m", 20)
	for _, c := range []struct {
		value, line string
		has         bool
	}{
		// of 0, 1, 20 and 21 bytes
		{"multipart/x;boundary=", "--", false}, {"multipart/x;boundary= ", "--", false}, {"multipart/x;boundary= ", "-- ", false}, {"multipart/x;boundary=;", "--", false},
		{"multipart/x;boundary=b", "--b", true}, {"multipart/x;boundary=" + long, "--" + long, true}, {"multipart/x;boundary=" + long + "m", "--" + long + "m", false}, {"multipart/x;boundary=" + long + "m", "--" + long, false}, {"multipart/x;boundary=" + long + " ", "--" + long, true},
		{"multipart/x;boundary=" + strings.Repeat("ä", 10), "--" + strings.Repeat("ä", 10), true}, {"multipart/x;boundary=" + strings.Repeat("ä", 11), "--" + strings.Repeat("ä", 11), false},
		// twice: the first one counts, and if it has no mark there is none
		{"multipart/x;boundary=b;boundary=c", "--b", true}, {"multipart/x;boundary=b;boundary=c", "--c", false}, {"multipart/x;boundary=;boundary=c", "--c", false}, {"multipart/x;boundary=" + long + "m;boundary=c", "--c", false}, {"multipart/x;boundary=b;boundary=", "--b", true},
		// not at all, or not so
		{"multipart/x", "--b", false}, {"multipart/x", "--", false}, {"multipart/x;boundary", "--", false}, {"multipart/x;xboundary=b", "--b", false}, {"multipart/x boundary=b", "--b", false}, {"multipart/boundary=b", "--b", false}, {"multipart/x;boundary =b", "--b", false}, {"multipart/x;bounda\u0155y=b", "--b", false},
		// in letters of either size, of which those of the mark are as they are
		{"MULTIPART/X;BOUNDARY=Bb", "--Bb", true}, {"multipart/x;Boundary=B", "--b", false}, {"multipart/x;boundary=b", "--B", false},
		// blanks, and all that a mark may have in it
		{"multipart/x \t; boundary=b ;", "--b", true}, {"multipart/x;boundary= b", "-- b", true}, {"multipart/x;boundary= b", "--b", false}, {"multipart/x;boundary=b c", "--b c", true}, {"multipart/x;boundary=\"b\"", "--\"b\"", true}, {"multipart/x;boundary=\"b\"", "--b", false}, {"multipart/x;boundary==", "--=", true}, {"multipart/x;a=b;boundary=.*;c", "--.*", true}, {"multipart/x;boundary=.*", "--bb", false}, {";;multipart/x;;boundary=b", "--b", true},
		{"multipart/x;boundary=--", "----", true}, {"multipart/x;boundary=b--", "--b--", true}, {"multipart/x;boundary=-", "---", true},
		// in a part that is no multipart
		{"text/x;boundary=b", "--b", false}, {"image/x;boundary=b", "--b", false}, {"multipart;boundary=b", "--b", false}, {";boundary=b", "--b", false}, {"boundary=b", "--b", false}, {"boundary=b;multipart/x", "--b", false},
	} {
		data := "Content-Type: " + strings.ReplaceAll(c.value, "\t", " ") + "\n\n" + c.line + "\n\none\n" + c.line + "\n\ntwo\n" + c.line + "--"
		if c.has {
			askTold(t, data, "1 text one", "2 text two")
		} else {
			askTold(t, data)
		}
	}
	// A mark is told by bytes, whether these tell characters or not.
	data := []byte(multi("\xff\xe4", "\none", "\ntwo"))
	if got := impl.ParseParts(data); len(got.Parts) != 3 || string(impl.BodyOf(data, 2).Bytes) != "two" {
		t.Errorf("got %+v", got)
	}
	// Without the field there is no mark, nor with one whose header has a fault.
	askTold(t, "A: multipart/x;boundary=b\n\n--b\n\none\n--b--")
	askTold(t, "\n--b\n\none\n--b--")
	askTold(t, "wrong\n"+multi("b", "\none"))
	askTold(t, "Content-Type: multipart/x;\n boundary=b\n\n--b\n\none\n--b--", "1 text one")
	askTold(t, "Content-Type: multipart/x;boundary=b\nContent-Type: multipart/x;boundary=c\n\n--c\n--b\n\none\n--b--", "1 text one")
}

func TestLinesOfMarks(t *testing.T) {
	for _, c := range []struct {
		body string
		want []string
	}{
		{"", nil},
		{"\n", nil},
		{"text", nil},
		{"--b\n\none\n--b\n\ntwo\n--b--\n", []string{"1 text one", "2 text two"}},
		{"--b\n\none\n--b\n\ntwo\n--b--", []string{"1 text one", "2 text two"}},
		// lines that begin with `--` and the mark and go on are no marks' lines
		{"--bx\n\none\n--bx--\n", nil},
		{"--b \n\none\n--b--", nil},
		{"--b\t\n\none\n", nil},
		{"--b\r\n\none\n", nil},
		{"--b-\n\none\n", nil},
		{"--b---\n\none\n", nil},
		{"--b\n\none\n--bx\n--b \n--b-\n--b---\n--b-- \n--b--x\ntwo\n--b--", []string{"1 text one\n--bx\n--b \n--b-\n--b---\n--b-- \n--b--x\ntwo"}},
		{"--b--x\n--b\n\none", []string{"1 text one"}},
		// nor are those with less, or with something ahead
		{"--\n-b\n-- b\nb\n--B\n---b\n--\n", nil},
		{"--b\n\none\n--\n-b\nb\n--B\n---b\n----\n--b--", []string{"1 text one\n--\n-b\nb\n--B\n---b\n----"}},
		// a mark that stands in the middle of a line
		{"x--b\n\none\n x--b--\n", nil},
		{" --b\n\none\n --b--\n", nil},
		{"--b\n\none--b\n --b\n\t--b--\nx --b --b--\n--b--", []string{"1 text one--b\n --b\n\t--b--\nx --b --b--"}},
		{"--b\n\none\x00--b\r--b\n--b--", []string{"1 text one\x00--b\r--b"}},
		{"--b--b\n\none\n", nil},
		// lines that end without a line feed
		{"--b", []string{"1 text "}},
		{"--b--", nil},
		{"x\n--b", []string{"1 text "}},
		{"--b\n\none\n--b", []string{"1 text one", "2 text "}},
		{"--b\n\none\n--b-", []string{"1 text one\n--b-"}},
		{"--b\n\none", []string{"1 text one"}},
		// a mark's line as the last one
		{"--b\n", []string{"1 text "}},
		{"--b\n\none\n--b\n", []string{"1 text one", "2 text "}},
		{"--b--\n", nil},
		// a part without an end
		{"--b\n\none\n", []string{"1 text one\n"}},
		{"--b\n\none\n\n", []string{"1 text one\n\n"}},
		{"--b\n\none\n--b\n\ntwo\n\n", []string{"1 text one", "2 text two\n\n"}},
		// something ahead of the first mark's line
		{"\n--b\n\none\n--b--\n", []string{"1 text one"}},
		{"ahead\n--b\n\none\n--b--\n", []string{"1 text one"}},
		{"ahead\n\nA: b\n--c\n--b\n\none\n--b--\n", []string{"1 text one"}},
		// something behind the line that ends them
		{"--b\n\none\n--b--\nbehind", []string{"1 text one"}},
		{"--b\n\none\n--b--\n--b\n\ntwo\n--b--\n", []string{"1 text one"}},
		{"--b--\n--b\n\none\n--b--\n", nil},
		{"ahead\n--b--\n--b\n\none\n--b--\n", nil},
		// the line feed ahead of a mark's line is no more in the part, but those ahead of it are
		{"--b\n\none\n\n--b\n\n\n\n--b--", []string{"1 text one\n", "2 text \n"}},
		// the header of a part
		{"--b\none\n--b--", []string{"1 other one"}},
		{"--b\nA: b\n--b--", []string{"1 text "}},
		{"--b\nA: b\n\none\n--b\nContent-Type: image/x\n\ntwo\n--b\n wrong\n\nthree\n--b--", []string{"1 text one", "2 other two", "3 other  wrong\n\nthree"}},
		{"--b\nContent-Type: image/x\n--b\n\n--b--", []string{"1 other ", "2 text "}},
	} {
		askTold(t, head("b")+c.body, c.want...)
		// In a part the same lines tell the same parts, a step deeper.
		inner := []string{"1 multi " + c.body}
		for _, want := range c.want {
			inner = append(inner, "1."+want)
		}
		askTold(t, head("outer")+"--outer\n"+head("b")+c.body+"\n--outer--", inner...)
	}
}

func TestPartsOfNothing(t *testing.T) {
	for _, c := range []struct {
		body string
		want []string
	}{
		{"--b\n--b--\n", []string{"1 text "}},
		{"--b\n--b--", []string{"1 text "}},
		{"--b\n--b\n--b--", []string{"1 text ", "2 text "}},
		{"--b\n--b", []string{"1 text ", "2 text "}},
		{"--b\n--b\n", []string{"1 text ", "2 text "}},
		{"--b\n\n--b\n\n--b--", []string{"1 text ", "2 text "}},
		{"--b\n\n\n--b--", []string{"1 text "}},
		{"--b\n\n\n\n--b--", []string{"1 text \n"}},
		{"--b\n \n--b--", []string{"1 other  "}},
		{"--b\n--b\n\none\n--b\n--b--", []string{"1 text ", "2 text one", "3 text "}},
		{strings.Repeat("--b\n", 7), []string{"1 text ", "2 text ", "3 text ", "4 text ", "5 text ", "6 text ", "7 text "}},
		{strings.Repeat("--b\n", 8), []string{"1 text ", "2 text ", "3 text ", "4 text ", "5 text ", "6 text ", "7 text "}},
	} {
		askTold(t, head("b")+c.body, c.want...)
	}
	// A multipart of nothing, in which there are none.
	askTold(t, head("b")+"--b\n"+head("c")+"\n--b--", "1 multi ")
	askTold(t, head("b")+"--b\nContent-Type: multipart/x;boundary=c\n--b--", "1 multi ")
	askTold(t, head("b")+"--b\n"+head("c")+"--c\n--b--", "1 multi --c", "1.1 text ")
	askTold(t, head("b")+"--b\n"+head("c")+"--c\n--c\n--b--", "1 multi --c\n--c", "1.1 text ", "1.2 text ")
}

func TestPartsInParts(t *testing.T) {
	// Of the same mark the inner one has no parts, as the lines are those of the outer one.
	askTold(t, head("b")+"--b\n"+head("b")+"--b\n\none\n--b--\n--b\n\ntwo\n--b--", "1 multi ", "2 text one")
	askTold(t, head("b")+"--b\n\none\n--b\n"+head("b")+"--b\n\ntwo\n--b--\n", "1 text one", "2 multi ", "3 text two")
	// Of a mark that begins as that of the outer one does, or ends as its last line does.
	askTold(t, multi("b", multi("bb", "\none"), "\ntwo"), "1 multi --bb\n\none\n--bb--\n", "1.1 text one", "2 text two")
	askTold(t, head("b")+"--b\n"+head("b--")+"--b--\n\none", "1 multi ")
	askTold(t, head("b--")+"--b--\n"+head("b")+"--b\n\none\n--b\n\ntwo\n--b----\n", "1 multi --b\n\none\n--b\n\ntwo", "1.1 text one", "1.2 text two")
	// One that is not ended goes no further than the part in which it is.
	askTold(t, head("b")+"--b\n"+head("c")+"--c\n\none\n--b\n--c\n\ntwo\n--b--", "1 multi --c\n\none", "1.1 text one", "2 other --c\n\ntwo")
	askTold(t, head("b")+"--b\n"+head("c")+"--c\n\none\n--b--\n--c\n\ntwo", "1 multi --c\n\none", "1.1 text one")

	one := multi("a", "\nx")
	two := multi("b", one, "\ny")
	three := multi("c", two, "\nz")
	four := multi("d", three, "\nw")
	bodyOf := func(text string) string { return text[strings.Index(text, "\n\n")+2:] }
	askTold(t, one, "1 text x")
	askTold(t, two, "1 multi "+bodyOf(one), "1.1 text x", "2 text y")
	// Of those with MaxDeep around them, themselves counted, no parts are told.
	askTold(t, three, "1 multi "+bodyOf(two), "1.1 multi "+bodyOf(one), "1.2 text y", "2 text z")
	askTold(t, four, "1 multi "+bodyOf(three), "1.1 multi "+bodyOf(two), "1.2 text z", "2 text w")
	// How deep one lies is no matter of how many there are beside it.
	side := multi("e", multi("f", "\np"), multi("g", "\nq"), multi("h", "\nr"))
	askTold(t, side, "1 multi --f\n\np\n--f--\n", "1.1 text p", "2 multi --g\n\nq\n--g--\n", "2.1 text q", "3 multi --h\n\nr\n--h--\n", "3.1 text r")
}

func TestMaxParts(t *testing.T) {
	letters := []string{"\n1", "\n2", "\n3", "\n4", "\n5", "\n6", "\n7", "\n8", "\n9"}
	told := []string{"1 text 1", "2 text 2", "3 text 3", "4 text 4", "5 text 5", "6 text 6", "7 text 7"}
	askTold(t, multi("b", letters[:6]...), told[:6]...)
	askTold(t, multi("b", letters[:7]...), told...)
	askTold(t, multi("b", letters[:8]...), told...)
	askTold(t, multi("b", letters...), told...)

	// Those of an inner one count ahead of those behind it.
	inner := func(n int) (string, string) {
		text := multi("c", letters[:n]...)
		return text, "1 multi " + text[len(head("c")):]
	}
	in4, body4 := inner(4)
	askTold(t, multi("b", in4, "\np"), body4, "1.1 text 1", "1.2 text 2", "1.3 text 3", "1.4 text 4", "2 text p")
	askTold(t, multi("b", in4, "\np", "\nq"), body4, "1.1 text 1", "1.2 text 2", "1.3 text 3", "1.4 text 4", "2 text p", "3 text q")
	askTold(t, multi("b", in4, "\np", "\nq", "\nr"), body4, "1.1 text 1", "1.2 text 2", "1.3 text 3", "1.4 text 4", "2 text p", "3 text q")
	in6, body6 := inner(6)
	askTold(t, multi("b", in6, "\np"), body6, "1.1 text 1", "1.2 text 2", "1.3 text 3", "1.4 text 4", "1.5 text 5", "1.6 text 6")
	in9, body9 := inner(9)
	askTold(t, multi("b", in9, "\np"), body9, "1.1 text 1", "1.2 text 2", "1.3 text 3", "1.4 text 4", "1.5 text 5", "1.6 text 6")
	// The last one of all has no room for what is in it.
	in1, body1 := inner(1)
	askTold(t, multi("b", append(slices.Clone(letters[:6]), in1)...), append(slices.Clone(told[:6]), "7"+body1[1:])...)
	askTold(t, multi("b", append(slices.Clone(letters[:5]), in1)...), append(slices.Clone(told[:5]), "6"+body1[1:], "6.1 text 1")...)
	askTold(t, multi("b", append(slices.Clone(letters[:5]), in1, "\nx")...), append(slices.Clone(told[:5]), "6"+body1[1:], "6.1 text 1")...)
}

func TestParsePartsReadsOnlyItsForm(t *testing.T) {
	ask := func(data string) {
		// One that is wrong is enough to tell.
		if len(data) <= impl.MaxBytes && !t.Failed() {
			askParts(t, data, wantParts(data))
		}
	}
	eachRow([]string{"--b", "--b--", "\n", "--", "x", "A: y"}, 6, func(body string) { ask(head("b") + body) })
	eachRow([]string{"--b\n", "--b--\n", "\n", "\nx", "-", head("c"), "--c\n", "--c--\n"}, 5, func(body string) { ask(head("b") + body) })
	eachText("-b\n", 8, func(body string) { ask("Content-Type:multipart/;boundary=b\n\n" + body) })
	eachText("-\n", 12, func(body string) { ask("Content-Type:multipart/;boundary=-\n\n" + body) })
	eachRow([]string{"Content-Type:", "multipart/x", ";", "boundary=", "b", "\n", "\n\n", "--b\n"}, 6, ask)
	for _, data := range []string{multi("b", multi("c", "\none", "\ntwo"), "\nthree"), multi("a", multi("b", multi("c", "\nx"), "\ny"), "\nz"), multi("b", "A: b\n\none", "Content-Type: text/x\nContent-Transfer-Encoding: base64\n\nYQ==", "wrong")} {
		for at := range len(data) {
			ask(data[:at])
			ask(data[at:])
			ask(data[:at] + data[at+1:])
			for _, b := range []string{"\n", "\n\n", " ", "-", "--", ":", ";", "b", "c", "\n--b\n", "\n--c\n", "\n--b--\n", "\n--c--\n"} {
				ask(data[:at] + b + data[at:])
				ask(data[:at] + b + data[at+1:])
			}
		}
	}
}

func TestParsePartsBounds(t *testing.T) {
	askParts(t, "", []impl.Part{{Kind: impl.PartText, Charset: impl.CsAscii, Coding: impl.CodingPlain, Up: -1}})
	for _, begin := range []string{"", "\n", "A: b\n\n", head("b"), head("b") + "--b\n\n", head("b") + "--b\n" + head("c") + "--c\n\n"} {
		for _, fill := range []string{"x", "\n", "\xff", " ", "-", "\x00"} {
			full := begin + strings.Repeat(fill, impl.MaxBytes-len(begin))
			askParts(t, full, wantParts(full))
			for _, more := range []string{"x", "\n", "\n--b--", strings.Repeat("\n", 1<<16)} {
				got := impl.ParseParts([]byte(full + more))
				if got.Code != impl.ErrMany || len(got.Parts) != 0 {
					t.Errorf("%d bytes: got %+v", len(full+more), got)
				}
			}
		}
	}
}
