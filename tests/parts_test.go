package tests

import (
	"math"
	"slices"
	"strconv"
	"strings"
	"testing"

	"loop.example/g00447/impl"
)

func askPath(t *testing.T, what string, got impl.IntsResult, code int64, path []int64) {
	t.Helper()
	if got.Code != code || !slices.Equal(got.List, path) {
		t.Errorf("%s: got code %d %v, want code %d %v", what, got.Code, got.List, code, path)
	}
}

// deepMessage has the parts 1 (a multipart), 1.1, 1.2 (a multipart of which no parts are told), 2, 3 (a multipart), 3.1.
func deepMessage() string {
	return multi("b", multi("c", "\none", multi("d", "\nx")), "\ntwo", multi("e", "A: b\n\nthree"))
}

var deepPaths = [][]int64{nil, {1}, {1, 1}, {1, 2}, {2}, {3}, {3, 1}}

// someMessages are ordinary ones, edges and wrong ones, none of them too long.
func someMessages() []string {
	return []string{
		"", "\n", "\nbody", "A: b", "no header", "Content-Type: image/x\n\nx", head("b"), head("b") + "--b--", head("b") + "--b", head("b") + "--b\n--b\n\n--b--",
		multi("b"), multi("b", "\none"), multi("b", "\none", "Content-Type: image/x\n\ntwo\n", "wrong"), multi("b", strings.Split(strings.Repeat("\nx;", 9), ";")...),
		deepMessage(), multi("a", multi("b", multi("c", multi("d", "\nx")))), multi("b", multi("c", "\n1", "\n2", "\n3", "\n4", "\n5", "\n6"), "\n7"),
		head("b") + "--b\n" + head("b") + "--b\n\none\n--b--", head("b") + "--b\n\n" + strings.Repeat("x", impl.MaxBytes-len(head("b"))-5), strings.Repeat("\n", impl.MaxBytes),
	}
}

func tooLong() [][]byte {
	return [][]byte{[]byte(strings.Repeat("\n", impl.MaxBytes+1)), []byte(multi("b", "\n"+strings.Repeat("x", impl.MaxBytes))), someBytes(impl.MaxBytes + 1), someBytes(1 << 16)}
}

func TestPartAt(t *testing.T) {
	data := []byte(deepMessage())
	for place, path := range deepPaths {
		askInt(t, "a path that there is", impl.PartAt(data, path), impl.OK, int64(place))
		askInt(t, "one number too many", impl.PartAt(data, append(slices.Clone(path), 4)), impl.ErrNone, 0)
		for _, wrong := range []int64{0, -1, 9, 1 << 32, 1<<32 + 1, math.MinInt64, math.MaxInt64} {
			askInt(t, "a number that there is not", impl.PartAt(data, append(slices.Clone(path), wrong)), impl.ErrNone, 0)
			askInt(t, "one that goes on", impl.PartAt(data, append(slices.Clone(path), wrong, 1)), impl.ErrNone, 0)
		}
	}
	askInt(t, "an empty path", impl.PartAt(data, []int64{}), impl.OK, 0)
	for _, path := range [][]int64{{0}, {0, 0}, {-1}, {0, 1}, {1, 0}, {4}, {2, 1}, {1, 3}, {1, 1, 1}, {1, 2, 1}, {3, 2}, {3, 1, 1}, {1, -1}, {-1, 0}, times(1000, 1), times(1<<20, 0)} {
		askInt(t, numbersText(path[:min(len(path), 9)]), impl.PartAt(data, path), impl.ErrNone, 0)
	}
	for _, text := range []string{"", "\nbody", "no header", head("b") + "--b--"} {
		askInt(t, strconv.Quote(text), impl.PartAt([]byte(text), nil), impl.OK, 0)
		for _, number := range []int64{-1, 0, 1, 2} {
			askInt(t, strconv.Quote(text), impl.PartAt([]byte(text), []int64{number}), impl.ErrNone, 0)
		}
	}
	// The 8th part is told, the 9th is not.
	many := []byte(head("b") + strings.Repeat("--b\n", 9))
	askInt(t, "the last of MaxParts", impl.PartAt(many, []int64{7}), impl.OK, 7)
	askInt(t, "one more", impl.PartAt(many, []int64{8}), impl.ErrNone, 0)
}

func TestPathOf(t *testing.T) {
	data := []byte(deepMessage())
	for place, path := range deepPaths {
		askPath(t, strconv.Itoa(place), impl.PathOf(data, int64(place)), impl.OK, path)
	}
	for _, text := range someMessages() {
		count := int64(len(wantParts(text)))
		askPath(t, strconv.Quote(text), impl.PathOf([]byte(text), 0), impl.OK, nil)
		if got := impl.PathOf([]byte(text), count-1); got.Code != impl.OK {
			t.Errorf("%q: the last part has the code %d", text, got.Code)
		}
		for _, part := range []int64{-1, count, count + 1, math.MinInt64, -1 << 32, 1 << 32, math.MaxInt64} {
			askPath(t, strconv.Quote(text)+strconv.FormatInt(part, 10), impl.PathOf([]byte(text), part), impl.ErrRange, nil)
		}
	}
}

func TestBodyOf(t *testing.T) {
	data := []byte(multi("b", "\none", "Content-Type: image/x\n\ntwo\n", "no header", "", "\n"))
	for place, body := range []string{string(data[43:]), "one", "two\n", "no header", "", ""} {
		askBytes(t, strconv.Itoa(place), impl.BodyOf(data, int64(place)), impl.OK, body)
	}
	// What a coding tells is not asked here.
	askBytes(t, "letters", impl.BodyOf([]byte("Content-Transfer-Encoding: base64\n\n!"), 0), impl.OK, "!")
	for _, text := range someMessages() {
		parts := wantParts(text)
		for place, part := range parts {
			askBytes(t, strconv.Quote(text), impl.BodyOf([]byte(text), int64(place)), impl.OK, text[part.From:part.To])
		}
		count := int64(len(parts))
		for _, part := range []int64{-1, count, count + 1, math.MinInt64, -1 << 32, 1 << 32, math.MaxInt64} {
			askBytes(t, strconv.Quote(text), impl.BodyOf([]byte(text), part), impl.ErrRange, "")
		}
	}
}

func TestTooManyBytesAreToldFirst(t *testing.T) {
	for _, data := range tooLong() {
		for _, part := range []int64{math.MinInt64, -1, 0, 1, 8, math.MaxInt64} {
			askPath(t, "PathOf", impl.PathOf(data, part), impl.ErrMany, nil)
			askBytes(t, "BodyOf", impl.BodyOf(data, part), impl.ErrMany, "")
			askInt(t, "PartAt", impl.PartAt(data, []int64{part}), impl.ErrMany, 0)
		}
		askInt(t, "PartAt", impl.PartAt(data, nil), impl.ErrMany, 0)
		askInt(t, "PartAt", impl.PartAt(data, times(1<<16, 1)), impl.ErrMany, 0)
	}
}

func TestPartsAreFoundByTheirPaths(t *testing.T) {
	for _, text := range someMessages() {
		data := []byte(text)
		parts := impl.ParseParts(data).Parts
		askLies(t, text, parts)
		places := map[string]int64{}
		for place, part := range parts {
			path := impl.PathOf(data, int64(place))
			askInt(t, strconv.Quote(text), impl.PartAt(data, path.List), impl.OK, int64(place))
			places[numbersText(path.List)] = int64(place)
			if place > 0 && (path.List[len(path.List)-1] != part.Number || impl.PartAt(data, path.List[:len(path.List)-1]).Value != part.Up) {
				t.Errorf("%q: part %d has the path %v", text, place, path.List)
			}
		}
		if len(places) != len(parts) {
			t.Errorf("%q: two parts have one path", text)
		}
		// No other path tells a part.
		for _, path := range textsOf([]int64{-1, 0, 1, 2, 3, 6, 7, 8}, 3) {
			place, ok := places[numbersText(path)]
			code := int64(impl.OK)
			if !ok {
				code = impl.ErrNone
			}
			askInt(t, strconv.Quote(text)+numbersText(path), impl.PartAt(data, path), code, place)
		}
	}
}

// bodiesOf are the bytes of some texts.
func bodiesOf(texts ...string) [][]byte {
	var bodies [][]byte
	for _, text := range texts {
		bodies = append(bodies, []byte(text))
	}
	return bodies
}

func TestBuildMulti(t *testing.T) {
	const begin = "Content-Type: multipart/mixed; boundary="
	z := strings.Repeat("z", 20)
	for _, c := range []struct {
		mark   string
		bodies [][]byte
		want   string
	}{
		{"b", nil, begin + "b\n\n--b--\n"},
		{"b", [][]byte{}, begin + "b\n\n--b--\n"},
		{"abc", bodiesOf("\none"), begin + "abc\n\n--abc\n\none\n--abc--\n"},
		{z, bodiesOf("\none", "A: b\n\ntwo\n"), begin + z + "\n\n--" + z + "\n\none\n--" + z + "\nA: b\n\ntwo\n\n--" + z + "--\n"},
		{"b", bodiesOf("", "", ""), begin + "b\n\n--b\n\n--b\n\n--b\n\n--b--\n"},
		{"b", [][]byte{nil}, begin + "b\n\n--b\n\n--b--\n"},
		{"b", bodiesOf("\n", "\n\n"), begin + "b\n\n--b\n\n\n--b\n\n\n\n--b--\n"},
		{"b", bodiesOf("1", "2", "3", "4", "5", "6"), begin + "b\n\n--b\n1\n--b\n2\n--b\n3\n--b\n4\n--b\n5\n--b\n6\n--b--\n"},
		{"b", bodiesOf("\x00\xff\r-"), begin + "b\n\n--b\n\x00\xff\r-\n--b--\n"},
	} {
		askBytes(t, c.mark, impl.BuildMulti(c.mark, c.bodies), impl.OK, c.want)
	}
}

func TestMarksOfBuildMulti(t *testing.T) {
	for one := range 256 {
		b := string([]byte{byte(one)})
		code := int64(impl.ErrText)
		if one >= 'a' && one <= 'z' {
			code = impl.OK
		}
		for _, mark := range []string{b, b + "a", "a" + b, "a" + b + "z", strings.Repeat("a", 19) + b} {
			if got := impl.BuildMulti(mark, bodiesOf("\none")); got.Code != code {
				t.Errorf("%q: code %d, want %d", mark, got.Code, code)
			}
		}
	}
	for _, mark := range []string{"", strings.Repeat("a", 21), strings.Repeat("a", 1<<16), "ä", " a", "a ", "a\n", "Mark", "a1", "--"} {
		askBytes(t, strconv.Quote(mark), impl.BuildMulti(mark, nil), impl.ErrText, "")
	}
}

func TestLinesThatBeginWithDashesAreRefused(t *testing.T) {
	for _, c := range []struct {
		body string
		code int64
	}{
		// at the beginning of the first line, of another one, of the last one
		{"--", impl.ErrForm}, {"--x", impl.ErrForm}, {"--b", impl.ErrForm}, {"--b--", impl.ErrForm}, {"---", impl.ErrForm}, {"--\nx", impl.ErrForm},
		{"x\n--\ny", impl.ErrForm}, {"x\n--b\ny", impl.ErrForm}, {"\n--c\n", impl.ErrForm}, {"x\n\n--", impl.ErrForm}, {"x\n--", impl.ErrForm}, {"x\n--\n", impl.ErrForm}, {"x\n--b", impl.ErrForm}, {"\n\n\n--", impl.ErrForm},
		// in the middle of a line, or less than that
		{"x--", impl.OK}, {"x--b\n", impl.OK}, {" --b", impl.OK}, {"x\n --b--\ny", impl.OK}, {"\t--", impl.OK}, {"x --", impl.OK}, {"-", impl.OK}, {"-\n-", impl.OK}, {"- -", impl.OK}, {"-\n-b\n", impl.OK}, {"x\r--", impl.OK}, {"x\x00--", impl.OK}, {"\n", impl.OK}, {"", impl.OK},
	} {
		for _, bodies := range [][][]byte{bodiesOf(c.body), bodiesOf(c.body, "\nx"), bodiesOf("\nx", c.body), bodiesOf("1", "2", "3", "4", "5", c.body)} {
			if got := impl.BuildMulti("b", bodies); got.Code != c.code || got.Code != impl.OK && len(got.Bytes) != 0 {
				t.Errorf("%q: got code %d, want %d", bodies, got.Code, c.code)
			}
		}
	}
	// A message of several parts is none that could be put into another one.
	askBytes(t, "a message in a message", impl.BuildMulti("b", [][]byte{impl.BuildMulti("c", nil).Bytes}), impl.ErrForm, "")
}

func TestBuildMultiBounds(t *testing.T) {
	seven := bodiesOf("1", "2", "3", "4", "5", "6", "7")
	askBytes(t, "7 bodies", impl.BuildMulti("b", seven), impl.ErrMany, "")
	askBytes(t, "7 bodies of nothing", impl.BuildMulti("b", make([][]byte, 7)), impl.ErrMany, "")
	askBytes(t, "far more", impl.BuildMulti("b", make([][]byte, 1<<16)), impl.ErrMany, "")
	for _, mark := range []string{"b", strings.Repeat("m", 20)} {
		for count := 1; count <= 6; count++ {
			bodies := make([][]byte, count)
			room := impl.MaxBytes - len(impl.BuildMulti(mark, bodies).Bytes)
			for at := range count {
				full := slices.Clone(bodies)
				full[at] = []byte("\n" + strings.Repeat("x", room-1))
				got := impl.BuildMulti(mark, full)
				if got.Code != impl.OK || len(got.Bytes) != impl.MaxBytes {
					t.Errorf("%d bodies: code %d, %d bytes", count, got.Code, len(got.Bytes))
				}
				askBytes(t, "what was put in", impl.BodyOf(got.Bytes, int64(at)+1), impl.OK, strings.Repeat("x", room-1))
				full[at] = append(full[at], 'x')
				askBytes(t, "one more byte", impl.BuildMulti(mark, full), impl.ErrMany, "")
				full[at] = someBytes(1 << 16)
				if got := impl.BuildMulti(mark, full); got.Code == impl.OK || len(got.Bytes) != 0 {
					t.Errorf("far more: got %+v", got)
				}
			}
		}
	}
}

func TestBuildMultiAsksItsCodesInOrder(t *testing.T) {
	long, wrong := strings.Repeat("x", 1000), "\n--"
	seven := bodiesOf("1", "2", "3", wrong, "5", "6", long)
	for _, mark := range []string{"", "B", strings.Repeat("b", 21)} {
		askBytes(t, "a wrong mark", impl.BuildMulti(mark, bodiesOf("x")), impl.ErrText, "")
		askBytes(t, "a wrong mark, and all else", impl.BuildMulti(mark, seven), impl.ErrText, "")
		askBytes(t, "a wrong mark, and a wrong line", impl.BuildMulti(mark, bodiesOf(wrong)), impl.ErrText, "")
		askBytes(t, "a wrong mark, and too many bytes", impl.BuildMulti(mark, bodiesOf(long)), impl.ErrText, "")
	}
	askBytes(t, "7 bodies, and a wrong line", impl.BuildMulti("b", seven), impl.ErrMany, "")
	askBytes(t, "a wrong line, and too many bytes in it", impl.BuildMulti("b", bodiesOf(long+wrong)), impl.ErrForm, "")
	askBytes(t, "too many bytes ahead of a wrong line", impl.BuildMulti("b", bodiesOf(long, "x", wrong)), impl.ErrForm, "")
	askBytes(t, "a wrong line ahead of too many bytes", impl.BuildMulti("b", bodiesOf(wrong, long)), impl.ErrForm, "")
	askBytes(t, "too many bytes", impl.BuildMulti("b", bodiesOf(long)), impl.ErrMany, "")
}

// askPutIn asks promise 6 of some bodies without a fault.
func askPutIn(t *testing.T, mark string, bodies ...string) {
	t.Helper()
	message := impl.BuildMulti(mark, bodiesOf(bodies...))
	if message.Code != impl.OK {
		t.Errorf("%q: code %d", bodies, message.Code)
		return
	}
	parts := askParts(t, string(message.Bytes), wantParts(string(message.Bytes)))
	if len(parts) != len(bodies)+1 {
		t.Errorf("%q: %d parts", bodies, len(parts))
		return
	}
	for i, body := range bodies {
		part := parts[i+1]
		alone := impl.ParseParts([]byte(body)).Parts[0]
		size := part.To - part.From
		if part.Kind != alone.Kind || part.Charset != alone.Charset || part.Coding != alone.Coding || part.Up != 0 || part.Number != int64(i)+1 || size != alone.To-alone.From {
			t.Errorf("%q: part %d is %+v, alone %+v", bodies, i+1, part, alone)
		}
		askBytes(t, body, impl.BodyOf(message.Bytes, int64(i)+1), impl.OK, body[alone.From:alone.To])
		askInt(t, body, impl.PartAt(message.Bytes, []int64{int64(i) + 1}), impl.OK, int64(i)+1)
		askPath(t, body, impl.PathOf(message.Bytes, int64(i)+1), impl.OK, []int64{int64(i) + 1})
		// All of it is there, with its header.
		whole := string(message.Bytes[part.To-int64(len(body)) : part.To])
		if whole != body {
			t.Errorf("%q: part %d is %q", bodies, i+1, whole)
		}
	}
}

func TestWhatWasPutIntoAMessageIsInIt(t *testing.T) {
	var small []string
	eachText("-a\n", 4, func(body string) {
		if !strings.HasPrefix(body, "--") && !strings.Contains(body, "\n--") {
			small = append(small, body)
		}
	})
	for _, one := range small {
		askPutIn(t, "b", one)
		for _, other := range small {
			askPutIn(t, "b", one, other)
		}
		askPutIn(t, "abcdefghijklmnopqrst", one, one, one, one, one, one)
	}
	ordinary := []string{"\none", "Content-Type: text/html; charset=utf-8\n\n\xc3\xa4", "Content-Transfer-Encoding: base64\n\nYQ==\n", "no header", "", "\n", "A: b", "Content-Type: multipart/x; boundary=mark\n\nx", "Content-Type: image/x\nContent-Transfer-Encoding: quoted-printable\n\n=41\n\n"}
	for i := range ordinary {
		for k := range ordinary {
			askPutIn(t, "mark", ordinary[i], ordinary[k], ordinary[i])
		}
	}
	askPutIn(t, "b")
	for one := range 256 {
		b := string([]byte{byte(one)})
		askPutIn(t, "b", b, "\n"+b, b+"\n", "a"+b+b, "\n"+b+"\n")
	}
}
