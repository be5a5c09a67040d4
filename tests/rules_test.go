package tests

import (
	"bytes"
	"fmt"
	"maps"
	"math"
	"reflect"
	"slices"
	"strconv"
	"strings"
	"testing"

	"loop.example/g00447/impl"
)

// byteArguments are ordinary ones, edges and wrong ones.
func byteArguments() [][]byte {
	list := [][]byte{nil, {}, {0}, []byte("a"), []byte("ab"), []byte("abc"), []byte("a = b \n\xe4 "), []byte("=\n"), allBytes()}
	for _, n := range []int{impl.MaxBytes - 1, impl.MaxBytes, impl.MaxBytes + 1, 4*impl.MaxBytes + 1, 1 << 20} {
		list = append(list, someBytes(n), bytes.Repeat([]byte(" "), n))
	}
	return list
}

func textArguments() []string {
	list := []string{"", "YQ==", "YWI=", "YWJj", "YR==", "YQ", "=", "==", "====", "a=\nb=3D", "=3d", "a ", "\x00", "\xff\xfe", "ä"}
	for _, n := range []int{impl.MaxBytes, impl.MaxBytes + 4, 4 * impl.MaxBytes, 4*impl.MaxBytes + 1, 1 << 20} {
		list = append(list, strings.Repeat("A", n), strings.Repeat("=", n), strings.Repeat("\n", n))
	}
	return list
}

func numberArguments() []int64 {
	return []int64{math.MinInt64, math.MinInt64 + 1, -64, -1, 0, 1, 62, 63, 64, 127, 255, 256, 1 << 32, math.MaxInt64}
}

func codesArguments() [][]int64 {
	list := [][]int64{nil, {}, edgeCharacters, noCharacters, numberArguments(), {1078, 'a', 8470, 167}, {'a', 228}}
	for _, n := range []int{impl.MaxBytes / 2, impl.MaxBytes, impl.MaxBytes + 1, 1 << 20} {
		list = append(list, times(n, 'a'), times(n, 65535), times(n, -1))
	}
	return list
}

func charsetArguments() []int64 {
	return slices.Concat(noCharsets, charsets)
}

func comparatorArguments() []int64 {
	return slices.Concat(noComparators, comparators)
}

func nameArguments() []string {
	return append(textArguments(), "us-ascii", "ISO-8859-1", "Utf-16", "utf-8 ", "utf-7", "i;octet", "i;unicode-casemap", "I;octet", "i;octet ")
}

func fieldsArguments() [][]impl.Field {
	list := [][]impl.Field{nil, {}, {{}}, field("A", ""), field("Subject", "=?utf-8?B?w6Q=?="), field("a b", ""), field("A", "\n"), field("\xff", "\x00")}
	for _, n := range []int{2, 3, impl.MaxFields, impl.MaxFields + 1, 1 << 12} {
		list = append(list, shortFields(n), someFields(n))
	}
	return append(list, field(strings.Repeat("a", 1<<20), ""), field("A", strings.Repeat("b", 1<<20)))
}

func headerArguments() [][]byte {
	list := byteArguments()
	for _, text := range []string{"\n", "A: b", "A: b\n\nz", "A: b\n c\n d\n", "A: b\n\tc\n", " a", "a", ":", "A:\nB:\n\n", strings.Repeat("A:\n", 9)} {
		list = append(list, []byte(text))
	}
	return list
}

func wordsArguments() []string {
	return append(textArguments(), "=?utf-8?Q?a=C3=A4_?= =?US-ASCII?b?Yg==?= y", "=?bad?Q?a?=", "=?", "=?utf-8?Q?", "=?utf-8?B??=", " \t", "\xe2\x82", strings.Repeat("=?", 1<<16), strings.Repeat("=?utf-8?Q?a?= ", 30))
}

func messageArguments() [][]byte {
	list := headerArguments()
	for _, text := range slices.Concat(someMessages(), viewMessages()) {
		list = append(list, []byte(text))
	}
	return append(list, tooLong()...)
}

func typeArguments() []string {
	return append(textArguments(), ";", " ; ", "text/", "TEXT/x; charset=utf-8", "text/x;charset=", "text/x;charset=bad", "multipart/x; boundary=b", "image/x", strings.Repeat(";", 1<<16), "text/x"+strings.Repeat("; charset=utf-8", 1<<12))
}

func pathArguments() [][]int64 {
	return [][]int64{nil, {}, {0}, {-1}, {1}, {2}, {1, 1}, {1, 2}, {3, 1}, {1, 2, 1}, {7}, {8}, {math.MinInt64}, {math.MaxInt64, 1}, times(1<<12, 1)}
}

func placeArguments() []int64 {
	return append(numberArguments(), 2, 3, 6, 7, 8)
}

func sliceArguments() []int64 {
	return append(numberArguments(), 399, 400, 401)
}

func bodiesArguments() [][][]byte {
	list := [][][]byte{nil, {}, {nil}, {{}}, bodiesOf("\none"), bodiesOf("\none", "A: b\n\ntwo\n"), bodiesOf("--x"), bodiesOf("x", "\n--"), bodiesOf("1", "2", "3", "4", "5", "6"), bodiesOf("1", "2", "3", "4", "5", "6", "7"), make([][]byte, 1<<12)}
	for _, data := range byteArguments() {
		list = append(list, [][]byte{data, []byte("\nx")})
	}
	return list
}

func messageArgumentsOfBoxes() []impl.Message {
	var list []impl.Message
	for _, m := range faultyMessages() {
		list = append(list, m...)
	}
	for _, n := range numberArguments() {
		list = append(list, impl.Message{Uid: n}, impl.Message{Uid: 1, Flags: n}, impl.Message{Uid: 1, Date: n}, impl.Message{Uid: 1, Data: someBytes(int(n & 511))})
	}
	return list
}

func boxArguments() []impl.Box {
	list := []impl.Box{{}, box("in", 1, 1), box("in", 1, 1000, 1, 2, 3, 4, 5, 999), box(strings.Repeat("a", 1<<20), 1, 1)}
	for _, m := range faultyMessages() {
		list = append(list, impl.Box{Name: "in", Validity: 1, Next: 7, Messages: m})
	}
	for _, n := range numberArguments() {
		list = append(list, box("in", n, 7, 1), box("in", 1, n, 1), box("in", 1, 7, n))
	}
	return list
}

func storeArguments() []impl.Store {
	list := slices.Concat(someStores(), faultyStores())
	others := otherStores()
	for _, what := range slices.Sorted(maps.Keys(others)) {
		list = append(list, others[what])
	}
	for _, n := range numberArguments() {
		list = append(list, store(n), store(n, box("in", 1, 7, 1)), store(9, box("in", n, 7, 1)))
	}
	return list
}

// answer is one call's, told so that an empty list and nil are the same.
type answer struct {
	call string
	code int64
	rest string
}

func textAnswer(call string, r impl.TextResult) answer {
	return answer{call, r.Code, r.Text}
}

func bytesAnswer(call string, r impl.BytesResult) answer {
	return answer{call, r.Code, string(r.Bytes)}
}

func codesAnswer(call string, r impl.CodesResult) answer {
	return answer{call, r.Code, numbersText(r.Codes)}
}

func intAnswer(call string, r impl.IntResult) answer {
	if r.Value == 0 {
		return answer{call, r.Code, ""}
	}
	return answer{call, r.Code, strconv.FormatInt(r.Value, 10)}
}

func boolAnswer(call string, b bool) answer {
	return answer{call, impl.OK, strconv.FormatBool(b)}
}

func headerAnswer(call string, r impl.HeaderResult) answer {
	rest := fieldsText(r.Fields)
	if r.At != 0 {
		rest += strconv.FormatInt(r.At, 10)
	}
	return answer{call, r.Code, rest}
}

func intsAnswer(call string, r impl.IntsResult) answer {
	return answer{call, r.Code, numbersText(r.List)}
}

func partsAnswer(call string, r impl.PartsResult) answer {
	var text string
	for _, p := range r.Parts {
		text += partText(p)
	}
	return answer{call, r.Code, text}
}

func partText(p impl.Part) string {
	return numbersText([]int64{p.Kind, p.Charset, p.Coding, p.From, p.To, p.Up, p.Number})
}

func fieldsText(list []impl.Field) string {
	var text []byte
	for _, f := range list {
		text = strconv.AppendQuote(text, f.Name)
		text = strconv.AppendQuote(text, f.Value)
	}
	return string(text)
}

func numbersText(list []int64) string {
	var text []byte
	for _, n := range list {
		text = append(strconv.AppendInt(text, n, 10), ' ')
	}
	return string(text)
}

// allAnswers calls each function that is built with all arguments of its kind.
func allAnswers() []answer {
	return slices.Concat(xferAnswers(), charsAnswers(), collateAnswers(), headerAnswers(), mimeAnswers(), viewAnswers(), boxAnswers(), opsAnswers(), journalAnswers(), vaultAnswers(), setAnswers(), searchAnswers(), sortAnswers(), commandAnswers(), serverAnswers(), scriptAnswers())
}

func xferAnswers() []answer {
	var list []answer
	for i, data := range byteArguments() {
		at := strconv.Itoa(i)
		list = append(list, textAnswer("EncodeBase "+at, impl.EncodeBase(data)))
		list = append(list, textAnswer("EncodeQuoted "+at, impl.EncodeQuoted(data)))
		list = append(list, boolAnswer("IsPlain "+at, impl.IsPlain(data)))
	}
	for i, text := range textArguments() {
		at := strconv.Itoa(i)
		list = append(list, bytesAnswer("DecodeBase "+at, impl.DecodeBase(text)))
		list = append(list, bytesAnswer("DecodeQuoted "+at, impl.DecodeQuoted(text)))
	}
	for _, v := range numberArguments() {
		list = append(list, intAnswer("BaseDigit "+strconv.FormatInt(v, 10), impl.BaseDigit(v)))
	}
	return list
}

func charsAnswers() []answer {
	var list []answer
	for i, name := range nameArguments() {
		list = append(list, intAnswer("CharsetOf "+strconv.Itoa(i), impl.CharsetOf(name)))
	}
	for i, codes := range codesArguments() {
		list = append(list, answer{"CodesFault " + strconv.Itoa(i), impl.CodesFault(codes), ""})
	}
	for _, cs := range charsetArguments() {
		of := " " + strconv.FormatInt(cs, 10) + " "
		list = append(list, textAnswer("CharsetName"+of, impl.CharsetName(cs)))
		for i, data := range byteArguments() {
			list = append(list, codesAnswer("DecodeText"+of+strconv.Itoa(i), impl.DecodeText(cs, data)))
		}
		for i, codes := range codesArguments() {
			list = append(list, bytesAnswer("EncodeText"+of+strconv.Itoa(i), impl.EncodeText(cs, codes)))
		}
		for _, c := range slices.Concat(edgeCharacters, noCharacters) {
			list = append(list, boolAnswer("HasChar"+of+strconv.FormatInt(c, 10), impl.HasChar(cs, c)))
		}
	}
	return list
}

func collateAnswers() []answer {
	var list []answer
	for i, name := range nameArguments() {
		list = append(list, intAnswer("ComparatorOf "+strconv.Itoa(i), impl.ComparatorOf(name)))
	}
	lists, pairs := codesArguments(), codesPairs()
	for _, cmp := range comparatorArguments() {
		of := " " + strconv.FormatInt(cmp, 10) + " "
		for _, c := range slices.Concat(edgeCharacters, noCharacters) {
			list = append(list, intAnswer("MapChar"+of+strconv.FormatInt(c, 10), impl.MapChar(cmp, c)))
		}
		for i, codes := range lists {
			list = append(list, codesAnswer("MapCodes"+of+strconv.Itoa(i), impl.MapCodes(cmp, codes)))
		}
		for i, pair := range pairs {
			list = append(list, intAnswer("CompareCodes"+of+strconv.Itoa(i), impl.CompareCodes(cmp, pair[0], pair[1])))
			list = append(list, boolAnswer("HasCodes"+of+strconv.Itoa(i), impl.HasCodes(cmp, pair[0], pair[1])))
		}
	}
	return list
}

func headerAnswers() []answer {
	var list []answer
	for i, fields := range fieldsArguments() {
		at := strconv.Itoa(i)
		list = append(list, answer{"FieldsFault " + at, impl.FieldsFault(fields), ""})
		list = append(list, bytesAnswer("PackHeader "+at, impl.PackHeader(fields)))
		for k, name := range append(nameArguments(), "A", "subject", "n7") {
			list = append(list, textAnswer("FieldOf "+at+" "+strconv.Itoa(k), impl.FieldOf(fields, name)))
		}
	}
	for i, data := range headerArguments() {
		list = append(list, headerAnswer("ParseHeader "+strconv.Itoa(i), impl.ParseHeader(data)))
	}
	for i, value := range wordsArguments() {
		list = append(list, codesAnswer("DecodeWords "+strconv.Itoa(i), impl.DecodeWords(value)))
	}
	for i, codes := range codesArguments() {
		list = append(list, textAnswer("EncodeWords "+strconv.Itoa(i), impl.EncodeWords(codes)))
	}
	return list
}

func mimeAnswers() []answer {
	var list []answer
	for i, data := range messageArguments() {
		at := strconv.Itoa(i) + " "
		list = append(list, partsAnswer("ParseParts "+at, impl.ParseParts(data)))
		for k, path := range pathArguments() {
			list = append(list, intAnswer("PartAt "+at+strconv.Itoa(k), impl.PartAt(data, path)))
		}
		for _, part := range placeArguments() {
			of := at + strconv.FormatInt(part, 10)
			list = append(list, intsAnswer("PathOf "+of, impl.PathOf(data, part)))
			list = append(list, bytesAnswer("BodyOf "+of, impl.BodyOf(data, part)))
		}
	}
	for i, bodies := range bodiesArguments() {
		for k, mark := range append(nameArguments(), "b", "mark", strings.Repeat("z", 20), strings.Repeat("z", 21)) {
			list = append(list, bytesAnswer("BuildMulti "+strconv.Itoa(i)+" "+strconv.Itoa(k), impl.BuildMulti(mark, bodies)))
		}
	}
	for i, value := range typeArguments() {
		list = append(list, answer{"TypeOf " + strconv.Itoa(i), impl.OK, partText(impl.TypeOf(value))})
	}
	return list
}

func viewAnswers() []answer {
	var list []answer
	for i, data := range messageArguments() {
		at := strconv.Itoa(i) + " "
		list = append(list, codesAnswer("SubjectOf "+at, impl.SubjectOf(data)))
		list = append(list, codesAnswer("PreviewOf "+at, impl.PreviewOf(data)))
		list = append(list, bytesAnswer("LegacyOf "+at, impl.LegacyOf(data)))
		for _, n := range placeArguments() {
			of := at + strconv.FormatInt(n, 10) + " "
			list = append(list, bytesAnswer("PartBytes "+of, impl.PartBytes(data, n)))
			list = append(list, codesAnswer("PartCodes "+of, impl.PartCodes(data, n)))
			for _, cs := range charsetArguments() {
				list = append(list, bytesAnswer("ConvertPart "+of+strconv.FormatInt(cs, 10), impl.ConvertPart(data, n, cs)))
			}
			for _, from := range sliceArguments() {
				list = append(list, bytesAnswer("SliceOf "+of+strconv.FormatInt(from, 10), impl.SliceOf(data, from, n)))
			}
		}
	}
	return list
}

func boxAnswers() []answer {
	var list []answer
	for i, m := range messageArgumentsOfBoxes() {
		list = append(list, answer{"MessageFault " + strconv.Itoa(i), impl.MessageFault(m), ""})
	}
	for i, b := range boxArguments() {
		at := strconv.Itoa(i) + " "
		list = append(list, answer{"BoxFault " + at, impl.BoxFault(b), ""})
		for _, uid := range numberArguments() {
			list = append(list, intAnswer("SequenceOf "+at+strconv.FormatInt(uid, 10), impl.SequenceOf(b, uid)))
		}
	}
	stores := storeArguments()
	for i, s := range stores {
		at := strconv.Itoa(i) + " "
		list = append(list, answer{"StoreFault " + at, impl.StoreFault(s), ""})
		for k, name := range append(nameArguments(), "in", "old", "z") {
			list = append(list, intAnswer("BoxOf "+at+strconv.Itoa(k), impl.BoxOf(s, name)))
		}
		for k, other := range stores {
			list = append(list, boolAnswer("SameStores "+at+strconv.Itoa(k), impl.SameStores(s, other)))
		}
	}
	for _, flags := range numberArguments() {
		list = append(list, textAnswer("FlagsText "+strconv.FormatInt(flags, 10), impl.FlagsText(flags)))
	}
	for i, text := range append(nameArguments(), wantFlags...) {
		list = append(list, intAnswer("ParseFlags "+strconv.Itoa(i), impl.ParseFlags(text)))
	}
	return list
}

// codesPairs has each list of characters on either side of each other one, and of itself.
func codesPairs() [][2][]int64 {
	var pairs [][2][]int64
	lists := codesArguments()
	for _, a := range lists {
		for _, b := range lists {
			pairs = append(pairs, [2][]int64{a, b})
		}
	}
	return pairs
}

func TestWithACodeAllElseIsZero(t *testing.T) {
	codes := map[int64]int{}
	for _, a := range allAnswers() {
		codes[a.code]++
		if a.code != impl.OK && a.rest != "" {
			t.Errorf("%s: code %d beside an answer", a.call, a.code)
		}
	}
	for _, code := range []int64{impl.OK, impl.ErrForm, impl.ErrMany, impl.ErrRange, impl.ErrNone, impl.ErrText, impl.ErrTaken, impl.ErrCode, impl.ErrChars, impl.ErrState, impl.ErrFull} {
		if codes[code] == 0 {
			t.Errorf("no call has the code %d", code)
		}
	}
}

func TestNothingIsKept(t *testing.T) {
	first := allAnswers()
	again := allAnswers()
	if !slices.Equal(first, again) {
		t.Error("the same calls answer something else")
	}
}

func TestArgumentsStayAsTheyWere(t *testing.T) {
	for i, data := range messageArguments() {
		// What is behind the length belongs to the caller as well.
		room := append(slices.Clone(data), 1, 2, 3, 4, 5, 6, 7, 8)
		before := slices.Clone(room)
		given := room[:len(data)]
		impl.EncodeBase(given)
		impl.EncodeQuoted(given)
		impl.IsPlain(given)
		impl.ParseHeader(given)
		impl.ParseParts(given)
		for _, path := range pathArguments() {
			impl.PartAt(given, path)
		}
		for _, part := range placeArguments() {
			impl.PathOf(given, part)
			impl.BodyOf(given, part)
		}
		for _, cs := range charsetArguments() {
			impl.DecodeText(cs, given)
		}
		callViews(given)
		if !bytes.Equal(room, before) {
			t.Errorf("argument %d was changed", i)
		}
	}
	for i, codes := range codesArguments() {
		room := append(slices.Clone(codes), 1, 2, 3, 4, 5, 6, 7, 8)
		before := slices.Clone(room)
		given := room[:len(codes)]
		impl.CodesFault(given)
		impl.EncodeWords(given)
		for _, cs := range charsetArguments() {
			impl.EncodeText(cs, given)
		}
		for _, cmp := range comparatorArguments() {
			impl.MapCodes(cmp, given)
			impl.CompareCodes(cmp, given, given)
			impl.CompareCodes(cmp, given, []int64{'a', 228})
			impl.CompareCodes(cmp, []int64{'a', 228}, given)
			impl.HasCodes(cmp, given, given)
			impl.HasCodes(cmp, given, []int64{'a', 228})
			impl.HasCodes(cmp, []int64{'a', 228}, given)
		}
		if !slices.Equal(room, before) {
			t.Errorf("characters %d were changed", i)
		}
	}
	for i, fields := range fieldsArguments() {
		room := append(slices.Clone(fields), shortFields(3)...)
		before := slices.Clone(room)
		given := room[:len(fields)]
		impl.FieldsFault(given)
		impl.PackHeader(given)
		impl.FieldOf(given, "subject")
		if !slices.Equal(room, before) {
			t.Errorf("fields %d were changed", i)
		}
	}
}

// callViews calls all functions of views with these bytes.
func callViews(data []byte) {
	impl.SubjectOf(data)
	impl.PreviewOf(data)
	impl.LegacyOf(data)
	for _, place := range placeArguments() {
		impl.PartBytes(data, place)
		impl.PartCodes(data, place)
		for _, cs := range charsetArguments() {
			impl.ConvertPart(data, place, cs)
		}
		for _, n := range sliceArguments() {
			impl.SliceOf(data, place, n)
		}
	}
}

func TestPathsAndBodiesStayAsTheyWere(t *testing.T) {
	message := []byte(deepMessage())
	for i, path := range pathArguments() {
		room := append(slices.Clone(path), 1, 2, 3, 4, 5, 6, 7, 8)
		before := slices.Clone(room)
		impl.PartAt(message, room[:len(path)])
		if !slices.Equal(room, before) {
			t.Errorf("path %d was changed", i)
		}
	}
	for i, bodies := range bodiesArguments() {
		// Each body has room behind it, and so has the list of them.
		var room, before [][]byte
		for _, body := range append(slices.Clone(bodies), []byte("behind"), []byte("them")) {
			whole := append(slices.Clone(body), "12345678"...)
			room = append(room, whole[:len(body)])
			before = append(before, slices.Clone(whole))
		}
		for _, mark := range []string{"b", "mark", "B"} {
			impl.BuildMulti(mark, room[:len(bodies)])
		}
		for k, body := range room {
			if len(body)+8 != len(before[k]) || !bytes.Equal(body[:len(before[k])], before[k]) {
				t.Errorf("bodies %d: body %d was changed", i, k)
			}
		}
	}
}

// roomy is the same store in new memory, where each list has something behind it that belongs to the caller.
func roomy(s impl.Store) impl.Store {
	fresh := impl.Store{Validity: s.Validity}
	for _, b := range s.Boxes {
		list := b.Messages
		b.Messages = nil
		for _, m := range list {
			m.Data = append(slices.Clone(m.Data), "behind"...)[:len(m.Data)]
			b.Messages = append(b.Messages, m)
		}
		b.Messages = append(b.Messages, messages(77, 78, 79)...)[:len(list)]
		fresh.Boxes = append(fresh.Boxes, b)
	}
	fresh.Boxes = append(fresh.Boxes, box("behind", 5, 5, 4), box("in", 1, 1))[:len(s.Boxes)]
	return fresh
}

// wholeRoom tells all that a store has, with what is behind its lists.
func wholeRoom(s impl.Store) string {
	text := fmt.Sprint(s)
	for _, b := range s.Boxes[:cap(s.Boxes)] {
		text += fmt.Sprint(b)
		for _, m := range b.Messages[:cap(b.Messages)] {
			text += fmt.Sprint(m, m.Data[:cap(m.Data)])
		}
	}
	return text
}

func TestStoresStayAsTheyWere(t *testing.T) {
	for i, s := range storeArguments() {
		given, other := roomy(s), roomy(s)
		before := wholeRoom(given)
		impl.StoreFault(given)
		for _, name := range []string{"in", "z", "none"} {
			impl.BoxOf(given, name)
		}
		for _, b := range given.Boxes {
			impl.BoxFault(b)
			impl.SequenceOf(b, 4)
			for _, m := range b.Messages {
				impl.MessageFault(m)
			}
		}
		impl.SameStores(given, other)
		impl.SameStores(given, fullStore())
		impl.SameStores(fullStore(), given)
		if wholeRoom(given) != before || wholeRoom(other) != before {
			t.Errorf("store %d was changed", i)
		}
	}
}

func TestAnswersOfStoresHangOnWhatIsGivenNotOnItsRoom(t *testing.T) {
	for i, s := range storeArguments() {
		given := roomy(s)
		askCode(t, fmt.Sprint("store ", i), impl.StoreFault(given), impl.StoreFault(s))
		askBool(t, fmt.Sprint("store ", i), impl.SameStores(given, s), true)
		askBool(t, fmt.Sprint("store ", i), impl.SameStores(s, given), true)
		for _, name := range []string{"in", "behind"} {
			if got, want := impl.BoxOf(given, name), impl.BoxOf(s, name); got != want {
				t.Errorf("what is behind the mailboxes of store %d counts: %+v, want %+v", i, got, want)
			}
		}
		for k, b := range given.Boxes {
			askCode(t, "a mailbox", impl.BoxFault(b), impl.BoxFault(s.Boxes[k]))
			if got, want := impl.SequenceOf(b, 77), impl.SequenceOf(s.Boxes[k], 77); got != want {
				t.Errorf("what is behind the messages of store %d counts: %+v, want %+v", i, got, want)
			}
		}
	}
}

func TestAnswersHangOnWhatIsGivenNotOnItsRoom(t *testing.T) {
	data := []byte("a b \n=\xe4 ")
	room := append(slices.Clone(data), []byte("\nabc")...)
	tight := slices.Clip(slices.Clone(data))
	if impl.EncodeBase(room[:len(data)]) != impl.EncodeBase(tight) || impl.EncodeQuoted(room[:len(data)]) != impl.EncodeQuoted(tight) || impl.IsPlain(room[:len(data)]) != impl.IsPlain(tight) {
		t.Error("what is behind the bytes counts")
	}
	halves := []byte("\xc3\xa4\xe2\x82\xac")
	for n := range len(halves) + 1 {
		tight := slices.Clip(slices.Clone(halves[:n]))
		for _, cs := range charsets {
			if !reflect.DeepEqual(impl.DecodeText(cs, halves[:n]), impl.DecodeText(cs, tight)) {
				t.Errorf("%d: what is behind %d bytes counts", cs, n)
			}
		}
	}
	codes := []int64{'a', 'b', -1, 55296}
	if got := impl.EncodeText(impl.CsUtf8, codes[:2]); got.Code != impl.OK || string(got.Bytes) != "ab" || impl.CodesFault(codes[:2]) != impl.OK {
		t.Error("what is behind the characters counts")
	}
	for _, cmp := range comparators {
		ab, abc := []int64{'a', 'b'}, []int64{'a', 'b', 'c'}
		if impl.MapCodes(cmp, codes[:2]).Code != impl.OK || impl.CompareCodes(cmp, abc[:2], ab).Value != 0 || impl.CompareCodes(cmp, codes[:2], abc).Value != -1 || impl.HasCodes(cmp, abc[:2], abc) || !impl.HasCodes(cmp, ab, abc[:2]) {
			t.Errorf("%d: what is behind the characters counts", cmp)
		}
	}
}

func TestAnswersOfHeadersHangOnWhatIsGivenNotOnItsRoom(t *testing.T) {
	data := []byte("A: b\n c\n\nD: e\n")
	for n := range len(data) + 1 {
		tight := slices.Clip(slices.Clone(data[:n]))
		if !reflect.DeepEqual(impl.ParseHeader(data[:n]), impl.ParseHeader(tight)) {
			t.Errorf("what is behind %d bytes counts", n)
		}
	}
	fields := append(field("A", "b"), impl.Field{Name: "C", Value: "\n"})
	if impl.FieldsFault(fields[:1]) != impl.OK || string(impl.PackHeader(fields[:1]).Bytes) != "A: b\n\n" || impl.FieldOf(fields[:1], "C").Code != impl.ErrNone {
		t.Error("what is behind the fields counts")
	}
	codes := []int64{'a', '=', '?', -1}
	if impl.EncodeWords(codes[:2]).Text != "a=" {
		t.Error("what is behind the characters counts")
	}
	// A value that is cut out of a longer one: the end of its word is behind it.
	value := "=?utf-8?Q?a?=\xc3\xa4"
	for n := range len(value) + 1 {
		if !reflect.DeepEqual(impl.DecodeWords(value[:n]), impl.DecodeWords(strings.Clone(value[:n]))) {
			t.Errorf("what is behind %d bytes of a value counts", n)
		}
	}
}

func TestAnswersOfPartsHangOnWhatIsGivenNotOnItsRoom(t *testing.T) {
	data := []byte(deepMessage())
	for n := range len(data) + 1 {
		tight := slices.Clip(slices.Clone(data[:n]))
		if !reflect.DeepEqual(impl.ParseParts(data[:n]), impl.ParseParts(tight)) {
			t.Errorf("what is behind %d bytes counts", n)
		}
		for place := range int64(impl.MaxParts) {
			if !reflect.DeepEqual(impl.PathOf(data[:n], place), impl.PathOf(tight, place)) || !bytes.Equal(impl.BodyOf(data[:n], place).Bytes, impl.BodyOf(tight, place).Bytes) {
				t.Errorf("what is behind %d bytes counts for part %d", n, place)
			}
		}
	}
	path := []int64{1, 2, 9, 9}
	if got := impl.PartAt(data, path[:2]); got != (impl.IntResult{Value: 3}) {
		t.Errorf("what is behind a path counts: %+v", got)
	}
	body := []byte("\none\n--two")
	bodies := [][]byte{body[:4], []byte("--")}
	if got := impl.BuildMulti("b", bodies[:1]); string(got.Bytes) != multi("b", "\none") {
		t.Errorf("what is behind a body counts: %+v", got)
	}
}

func TestAnswersOfViewsHangOnWhatIsGivenNotOnItsRoom(t *testing.T) {
	for _, text := range viewMessages() {
		data := []byte(text)
		for n := range len(data) + 1 {
			tight := slices.Clip(slices.Clone(data[:n]))
			if fmt.Sprint(wholeViews(data[:n])) != fmt.Sprint(wholeViews(tight)) {
				t.Errorf("%q: what is behind %d bytes counts", text, n)
			}
		}
	}
	if got := impl.SliceOf([]byte("abcdef")[:3], 1, impl.MaxBytes); string(got.Bytes) != "bc" {
		t.Errorf("what is behind the bytes is in a slice: %q", got.Bytes)
	}
}

// views are what is seen of a message and of one part of it.
type views struct {
	subject, preview, codes            impl.CodesResult
	legacy, bytes, converted, cut, all impl.BytesResult
}

func viewsOf(data []byte, place, cs int64) views {
	return views{
		impl.SubjectOf(data), impl.PreviewOf(data), impl.PartCodes(data, place),
		impl.LegacyOf(data), impl.PartBytes(data, place), impl.ConvertPart(data, place, cs), impl.SliceOf(data, 2, 5), impl.SliceOf(data, 0, impl.MaxBytes),
	}
}

func wholeViews(data []byte) []views {
	return []views{viewsOf(data, 0, impl.CsUtf8), viewsOf(data, 1, impl.CsUtf16), viewsOf(data, 2, impl.CsLatin)}
}

// wipe clears all lists of the views, and the room behind them.
func (v views) wipe() {
	for _, r := range []impl.CodesResult{v.subject, v.preview, v.codes} {
		clear(r.Codes[:cap(r.Codes)])
	}
	for _, r := range []impl.BytesResult{v.legacy, v.bytes, v.converted, v.cut, v.all} {
		clear(r.Bytes[:cap(r.Bytes)])
	}
}

func TestAnswersOfViewsAreNewMemory(t *testing.T) {
	for _, text := range slices.Concat(viewMessages(), []string{"Subject: a\n\nplain  text", "Subject: ä\n" + textOf("us-ascii", "base64", "cGxhaW4="), "Subject: a\n" + textOf("utf-8", "quoted-printable", "=70lain")}) {
		for place := range int64(len(impl.ParseParts([]byte(text)).Parts)) {
			data := []byte(text + "behind")[:len(text)]
			// A text, as what is kept to hold answers against may not share memory with them.
			want := fmt.Sprint(viewsOf(data, place, impl.CsUtf8))
			first, second := viewsOf(data, place, impl.CsUtf8), viewsOf(data, place, impl.CsUtf8)
			first.wipe()
			if string(data[:len(text)+6]) != text+"behind" {
				t.Errorf("%q: an answer shares memory with its argument", text)
			}
			clear(data)
			if fmt.Sprint(second) != want {
				t.Errorf("%q: an answer shares memory with its argument or with another one", text)
			}
		}
	}
	// Nor does what is empty lie in the argument: what is put behind it changes nothing there.
	data := []byte("A: b\n\n")[:6]
	for _, empty := range []impl.BytesResult{impl.SliceOf(data, 0, 0), impl.SliceOf(data, 3, 0), impl.SliceOf(data, 6, 1), impl.PartBytes(data, 0), impl.ConvertPart(data, 0, impl.CsUtf8)} {
		_ = append(empty.Bytes, "new"...)
	}
	if string(data) != "A: b\n\n" {
		t.Errorf("an empty answer lies in its message: %q", data)
	}
}

func TestAnswersOfPartsAreNewMemory(t *testing.T) {
	data := []byte(deepMessage())
	bodies := bodiesOf("\none", "\ntwo")
	type answers struct {
		parts impl.PartsResult
		path  impl.IntsResult
		body  impl.BytesResult
		whole impl.BytesResult
		built impl.BytesResult
	}
	ask := func() answers {
		return answers{impl.ParseParts(data), impl.PathOf(data, 3), impl.BodyOf(data, 2), impl.BodyOf(data, 0), impl.BuildMulti("b", bodies)}
	}
	// A text, as what is kept to hold answers against may not share memory with them.
	want := fmt.Sprint(ask())
	first, second := ask(), ask()
	if len(first.parts.Parts) != 7 || len(first.path.List) != 2 || string(first.body.Bytes) != "one" || string(first.built.Bytes) != multi("b", "\none", "\ntwo") {
		t.Errorf("got %+v", first)
	}
	clear(first.parts.Parts[:cap(first.parts.Parts)])
	clear(first.path.List[:cap(first.path.List)])
	clear(first.body.Bytes[:cap(first.body.Bytes)])
	clear(first.whole.Bytes[:cap(first.whole.Bytes)])
	clear(first.built.Bytes[:cap(first.built.Bytes)])
	if string(data) != deepMessage() || string(bodies[0]) != "\none" {
		t.Error("an answer shares memory with its argument")
	}
	clear(data)
	clear(bodies[0])
	clear(bodies[1])
	if fmt.Sprint(second) != want {
		t.Error("an answer shares memory with its argument or with another one")
	}
	// Nor does what is empty lie in the argument: what is put behind it changes nothing there.
	empty := []byte(head("b") + "--b\n--b--\n")
	kept := slices.Clone(empty)
	_ = append(impl.BodyOf(empty, 1).Bytes, "new"...)
	if !bytes.Equal(empty, kept) {
		t.Error("an empty body lies in its message")
	}
}

func TestAnswersAreNewMemory(t *testing.T) {
	for _, read := range []func(string) impl.BytesResult{impl.DecodeBase, impl.DecodeQuoted} {
		text := strings.Repeat("YWJj", 50)
		first := read(text)
		kept := slices.Clone(first.Bytes)
		second := read(text)
		clear(first.Bytes[:cap(first.Bytes)])
		if !bytes.Equal(second.Bytes, kept) || !reflect.DeepEqual(read(text), impl.BytesResult{Bytes: kept}) {
			t.Error("two answers share memory")
		}
	}
	data := []byte("abcabc")
	base, quoted := impl.EncodeBase(data), impl.EncodeQuoted(data)
	clear(data)
	if base.Text != "YWJjYWJj" || quoted.Text != "abcabc" {
		t.Error("an answer shares memory with its argument")
	}
}

func TestAnswersOfCharsetsAreNewMemory(t *testing.T) {
	for _, cs := range charsets {
		codes := times(50, 'a', 'b')
		data := impl.EncodeText(cs, codes)
		read := impl.DecodeText(cs, data.Bytes)
		bytesBefore, codesBefore := slices.Clone(data.Bytes), slices.Clone(read.Codes)
		otherData, otherRead := impl.EncodeText(cs, codes), impl.DecodeText(cs, data.Bytes)
		clear(codes)
		clear(otherData.Bytes[:cap(otherData.Bytes)])
		clear(otherRead.Codes[:cap(otherRead.Codes)])
		if !bytes.Equal(data.Bytes, bytesBefore) {
			t.Errorf("%d: bytes share memory", cs)
		}
		clear(data.Bytes)
		if !slices.Equal(read.Codes, codesBefore) {
			t.Errorf("%d: characters share memory", cs)
		}
	}
}

func TestAnswersOfComparatorsAreNewMemory(t *testing.T) {
	for _, cmp := range comparators {
		// Large letters count as themselves, so that handing the argument on would be tempting.
		codes := times(50, 'A', 'B')
		before := slices.Clone(codes)
		first, second := impl.MapCodes(cmp, codes), impl.MapCodes(cmp, codes)
		clear(first.Codes[:cap(first.Codes)])
		if !slices.Equal(codes, before) {
			t.Errorf("%d: an answer shares memory with its argument", cmp)
		}
		clear(codes)
		if !slices.Equal(second.Codes, before) {
			t.Errorf("%d: an answer shares memory with its argument or with another one", cmp)
		}
	}
}

func TestAnswersOfHeadersAreNewMemory(t *testing.T) {
	data := []byte("Subject: a b\n c\nX: y\n\nz")
	want := []impl.Field{{Name: "Subject", Value: "a b c"}, {Name: "X", Value: "y"}}
	first, second := impl.ParseHeader(data), impl.ParseHeader(data)
	text := impl.FieldOf(first.Fields, "subject")
	packed, again := impl.PackHeader(want), impl.PackHeader(want)
	clear(data)
	clear(first.Fields[:cap(first.Fields)])
	if !slices.Equal(second.Fields, want) || text.Text != "a b c" {
		t.Error("fields share memory with the bytes or with each other")
	}
	clear(packed.Bytes[:cap(packed.Bytes)])
	if string(again.Bytes) != "Subject: a b c\nX: y\n\n" || want[1].Value != "y" {
		t.Error("two headers share memory")
	}
	codes := times(50, 'a', 'b')
	told := impl.EncodeWords(codes)
	clear(codes)
	if told.Text != strings.Repeat("ab", 50) {
		t.Error("a text shares memory with its characters")
	}
	for _, value := range []string{"ab  ab", "=?utf-8?Q?ab?= =?utf-8?Q?ab?="} {
		one, other := impl.DecodeWords(value), impl.DecodeWords(value)
		kept := slices.Clone(one.Codes)
		clear(other.Codes[:cap(other.Codes)])
		if !slices.Equal(one.Codes, kept) {
			t.Error("two answers share memory")
		}
	}
}
