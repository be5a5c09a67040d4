package tests

import (
	"bytes"
	"fmt"
	"slices"
	"strconv"
	"testing"

	"loop.example/g00447/impl"
)

// journalArguments are bytes that tell ops, that tell some and end otherwise, and that tell none.
func journalArguments() [][]byte {
	list := byteArguments()
	for _, ops := range [][]impl.Op{someOps(), bareOps(), fullOps(), longList(8000), longList(8001), slices.Repeat([]impl.Op{makeOp("a")}, 533)} {
		data := []byte(wantPackedAll(ops))
		list = append(list, data, data[:len(data)-1], data[:len(data)/2], data[1:], append(slices.Clone(data), 0, 9), append([]byte{0}, data...))
	}
	for _, o := range slices.Concat(someOps(), fullOps(), faultyOps()) {
		list = append(list, wantPacked(o))
	}
	for _, n := range []int{impl.MaxJournal - 1, impl.MaxJournal, impl.MaxJournal + 1} {
		list = append(list, make([]byte, n), bytes.Repeat([]byte{255}, n), someBytes(n))
	}
	return list
}

// longLists are more than the lists that are done to a store: a journal has bounds of its own.
func longLists() [][]impl.Op {
	list := append(opListArguments(), bareOps(), fullOps(), longList(8000), longList(8001), append(longList(8001), impl.Op{}))
	for _, o := range faultyOps() {
		list = append(list, []impl.Op{o}, append(someOps(), o))
	}
	return list
}

func opAnswer(call string, r impl.OpResult) answer {
	if r.Used == 0 && opWhole(r.Op) == opWhole(impl.Op{}) {
		return answer{call, r.Code, ""}
	}
	return answer{call, r.Code, fmt.Sprint(r.Used, opWhole(r.Op))}
}

func journalAnswer(call string, r impl.OpsResult) answer {
	if r.Used == 0 && len(r.Ops) == 0 {
		return answer{call, r.Code, ""}
	}
	return answer{call, r.Code, fmt.Sprint(r.Used, opsWhole(r.Ops))}
}

func journalAnswers() []answer {
	var list []answer
	for i, o := range append(opArguments(), journalOps()...) {
		list = append(list, bytesAnswer("PackOp "+strconv.Itoa(i), impl.PackOp(o)))
	}
	for i, ops := range longLists() {
		list = append(list, bytesAnswer("PackOps "+strconv.Itoa(i), impl.PackOps(ops)))
	}
	for i, data := range journalArguments() {
		list = append(list, opAnswer("ReadOp "+strconv.Itoa(i), impl.ReadOp(data)))
		list = append(list, journalAnswer("ReadJournal "+strconv.Itoa(i), impl.ReadJournal(data)))
	}
	return list
}

func TestOpsThatArePackedStayAsTheyWere(t *testing.T) {
	lists := longLists()
	for _, o := range append(shortOps(), journalOps()...) {
		lists = append(lists, []impl.Op{o, o})
	}
	for i, list := range lists {
		given := roomyOps(list)
		before := wholeOps(given)
		for _, o := range given {
			impl.PackOp(o)
		}
		impl.PackOps(given)
		if wholeOps(given) != before {
			t.Errorf("ops %d were changed", i)
		}
	}
}

func TestJournalsStayAsTheyWere(t *testing.T) {
	for i, data := range journalArguments() {
		room := append(slices.Clone(data), "behind"...)
		before := slices.Clone(room)
		impl.ReadOp(room[:len(data)])
		impl.ReadJournal(room[:len(data)])
		if !bytes.Equal(room, before) {
			t.Errorf("bytes %d were changed", i)
		}
	}
}

func TestAnswersOfJournalsHangOnWhatIsGivenNotOnItsRoom(t *testing.T) {
	for _, o := range append(shortOps(), journalOps()...) {
		want := impl.PackOp(o)
		askBytes(t, opText(o), impl.PackOp(roomyOp(o)), want.Code, string(want.Bytes))
		// What is missing stands behind the bytes that are given, and yet it is not theirs.
		for size := range len(want.Bytes) {
			askUnread(t, opText(o), want.Bytes[:size])
			askJournal(t, opText(o), impl.ReadJournal(want.Bytes[:size]), impl.OK, 0, nil)
		}
	}
	for i, list := range longLists() {
		want := impl.PackOps(list)
		askBytes(t, fmt.Sprint("list ", i), impl.PackOps(roomyOps(list)), want.Code, string(want.Bytes))
	}
	for i, data := range journalArguments() {
		room := append(slices.Clone(data), packedByHand[0].data...)[:len(data)]
		askSame(t, opAnswer(fmt.Sprint("bytes ", i), impl.ReadOp(room)), opAnswer(fmt.Sprint("bytes ", i), impl.ReadOp(slices.Clip(data))))
		askSame(t, journalAnswer(fmt.Sprint("bytes ", i), impl.ReadJournal(room)), journalAnswer(fmt.Sprint("bytes ", i), impl.ReadJournal(slices.Clip(data))))
	}
}

func askSame(t *testing.T, got, want answer) {
	t.Helper()
	if got != want {
		t.Errorf("got %.200v, want %.200v", got, want)
	}
}

func TestBytesOfOpsAreNewMemory(t *testing.T) {
	for _, o := range journalOps() {
		calls := map[string]func(impl.Op) []byte{
			"PackOp":  func(o impl.Op) []byte { return impl.PackOp(o).Bytes },
			"PackOps": func(o impl.Op) []byte { return impl.PackOps([]impl.Op{o}).Bytes },
			"two":     func(o impl.Op) []byte { return impl.PackOps([]impl.Op{o, o}).Bytes },
		}
		for what, call := range calls {
			given := roomyOp(o)
			before, want := wholeOps([]impl.Op{given}), string(call(o))
			first, second := call(given), call(given)
			clear(first[:cap(first)])
			if wholeOps([]impl.Op{given}) != before {
				t.Errorf("%s %s: an answer shares memory with its argument", what, opText(o))
			}
			wipeOps([]impl.Op{given})
			if string(second) != want {
				t.Errorf("%s %s: an answer shares memory with its argument or with another one", what, opText(o))
			}
		}
	}
}

func TestOpsThatAreReadAreNewMemory(t *testing.T) {
	calls := map[string]func([]byte) []impl.Op{
		"ReadOp":      func(data []byte) []impl.Op { return []impl.Op{impl.ReadOp(data).Op} },
		"ReadJournal": func(data []byte) []impl.Op { return impl.ReadJournal(data).Ops },
	}
	for _, list := range [][]impl.Op{someOps(), fullOps(), bareOps(), longList(8000), fullOps()[2:], fullOps()[3:], fullOps()[4:]} {
		for what, call := range calls {
			given := append([]byte(wantPackedAll(list)), "behind"...)[:len(wantPackedAll(list))]
			before, want := string(given[:cap(given)]), opsWhole(call(given))
			first, second := call(given), call(given)
			wipeOps(first)
			if string(given[:cap(given)]) != before {
				t.Errorf("%s: an answer shares memory with its argument", what)
			}
			clear(given[:cap(given)])
			if opsWhole(second) != want {
				t.Errorf("%s: an answer shares memory with its argument or with another one", what)
			}
		}
	}
}

func TestNoTwoOpsOfAJournalShareMemory(t *testing.T) {
	list := slices.Concat(fullOps(), someOps(), fullOps())
	data := []byte(wantPackedAll(list))
	for at := range list {
		// Each op in turn is turned and put longer: no other one may change.
		got := impl.ReadJournal(data).Ops
		for i := range got[at].Uids {
			got[at].Uids[i] = 77
		}
		clear(got[at].Data)
		_ = append(got[at].Uids, times(9, 78)...)
		_ = append(got[at].Data, someBytes(500)...)
		got[at] = list[at]
		if opsWhole(got) != opsWhole(list) {
			t.Errorf("op %d shares memory with another one", at)
		}
	}
}
