package tests

import (
	"bytes"
	"math"
	"reflect"
	"slices"
	"strconv"
	"strings"
	"testing"

	"loop.example/g00447/impl"
)

// byteArguments are ordinary ones, edges and wrong ones.
func byteArguments() [][]byte {
	list := [][]byte{nil, {}, {0}, []byte("a"), []byte("ab"), []byte("abc"), []byte("a = b \n\xe4 "), []byte("=\n"), allBytes()}
	for _, n := range []int{impl.MaxBytes - 1, impl.MaxBytes, impl.MaxBytes + 1, 4*impl.MaxBytes + 1, 1 << 20} {
		list = append(list, someBytes(n), bytes.Repeat([]byte(" "), n))
	}
	return list
}

func textArguments() []string {
	list := []string{"", "YQ==", "YWI=", "YWJj", "YR==", "YQ", "=", "==", "====", "a=\nb=3D", "=3d", "a ", "\x00", "\xff\xfe", "ä"}
	for _, n := range []int{impl.MaxBytes, impl.MaxBytes + 4, 4 * impl.MaxBytes, 4*impl.MaxBytes + 1, 1 << 20} {
		list = append(list, strings.Repeat("A", n), strings.Repeat("=", n), strings.Repeat("\n", n))
	}
	return list
}

func numberArguments() []int64 {
	return []int64{math.MinInt64, math.MinInt64 + 1, -64, -1, 0, 1, 62, 63, 64, 127, 255, 256, 1 << 32, math.MaxInt64}
}

// answer is one call's, told so that an empty list and nil are the same.
type answer struct {
	call string
	code int64
	rest string
}

func textAnswer(call string, r impl.TextResult) answer {
	return answer{call, r.Code, r.Text}
}

func bytesAnswer(call string, r impl.BytesResult) answer {
	return answer{call, r.Code, string(r.Bytes)}
}

// allAnswers calls each function that is built with all arguments of its kind.
func allAnswers() []answer {
	var list []answer
	for i, data := range byteArguments() {
		at := strconv.Itoa(i)
		list = append(list, textAnswer("EncodeBase "+at, impl.EncodeBase(data)))
		list = append(list, textAnswer("EncodeQuoted "+at, impl.EncodeQuoted(data)))
		list = append(list, answer{"IsPlain " + at, impl.OK, strconv.FormatBool(impl.IsPlain(data))})
	}
	for i, text := range textArguments() {
		at := strconv.Itoa(i)
		list = append(list, bytesAnswer("DecodeBase "+at, impl.DecodeBase(text)))
		list = append(list, bytesAnswer("DecodeQuoted "+at, impl.DecodeQuoted(text)))
	}
	for _, v := range numberArguments() {
		r := impl.BaseDigit(v)
		rest := ""
		if r.Value != 0 {
			rest = strconv.FormatInt(r.Value, 10)
		}
		list = append(list, answer{"BaseDigit " + strconv.FormatInt(v, 10), r.Code, rest})
	}
	return list
}

func TestWithACodeAllElseIsZero(t *testing.T) {
	codes := map[int64]int{}
	for _, a := range allAnswers() {
		codes[a.code]++
		if a.code != impl.OK && a.rest != "" {
			t.Errorf("%s: code %d beside an answer", a.call, a.code)
		}
	}
	for _, code := range []int64{impl.OK, impl.ErrMany, impl.ErrRange, impl.ErrCode} {
		if codes[code] == 0 {
			t.Errorf("no call has the code %d", code)
		}
	}
}

func TestNothingIsKept(t *testing.T) {
	first := allAnswers()
	again := allAnswers()
	if !slices.Equal(first, again) {
		t.Error("the same calls answer something else")
	}
}

func TestArgumentsStayAsTheyWere(t *testing.T) {
	for i, data := range byteArguments() {
		// What is behind the length belongs to the caller as well.
		room := append(slices.Clone(data), 1, 2, 3, 4, 5, 6, 7, 8)
		before := slices.Clone(room)
		given := room[:len(data)]
		impl.EncodeBase(given)
		impl.EncodeQuoted(given)
		impl.IsPlain(given)
		if !bytes.Equal(room, before) {
			t.Errorf("argument %d was changed", i)
		}
	}
}

func TestAnswersHangOnWhatIsGivenNotOnItsRoom(t *testing.T) {
	data := []byte("a b \n=\xe4 ")
	room := append(slices.Clone(data), []byte("\nabc")...)
	tight := slices.Clip(slices.Clone(data))
	if impl.EncodeBase(room[:len(data)]) != impl.EncodeBase(tight) || impl.EncodeQuoted(room[:len(data)]) != impl.EncodeQuoted(tight) || impl.IsPlain(room[:len(data)]) != impl.IsPlain(tight) {
		t.Error("what is behind the bytes counts")
	}
}

func TestAnswersAreNewMemory(t *testing.T) {
	for _, read := range []func(string) impl.BytesResult{impl.DecodeBase, impl.DecodeQuoted} {
		text := strings.Repeat("YWJj", 50)
		first := read(text)
		kept := slices.Clone(first.Bytes)
		second := read(text)
		clear(first.Bytes[:cap(first.Bytes)])
		if !bytes.Equal(second.Bytes, kept) || !reflect.DeepEqual(read(text), impl.BytesResult{Bytes: kept}) {
			t.Error("two answers share memory")
		}
	}
	data := []byte("abcabc")
	base, quoted := impl.EncodeBase(data), impl.EncodeQuoted(data)
	clear(data)
	if base.Text != "YWJjYWJj" || quoted.Text != "abcabc" {
		t.Error("an answer shares memory with its argument")
	}
}
