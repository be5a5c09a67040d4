package tests

import (
	"fmt"
	"maps"
	"slices"
	"strconv"
	"strings"
	"testing"

	"loop.example/g00447/impl"
)

// opArguments are ops without and with faults, and such as have what their kind has not.
func opArguments() []impl.Op {
	list := slices.Concat(someOps(), []impl.Op{{}, {Kind: 8, Box: "in"}, makeOp(strings.Repeat("a", 1<<20)), makeOp("In"), copyOp("in", "in", 1), copyOp("old", "in", 1), moveOp("in", "in"), moveOp("in", "z", times(1<<16, 1)...), addOp("in", 0, 0, string(someBytes(1<<20)))})
	others := otherOps()
	for _, what := range slices.Sorted(maps.Keys(others)) {
		list = append(list, others[what])
	}
	for _, n := range numberArguments() {
		list = append(list, impl.Op{Kind: n, Box: "in"}, flagOp("in", n, 1, 1), flagOp("in", 1, n, 1), flagOp("in", 1, 1, n), copyOp("in", "z", n), addOp("in", n, 0, ""), addOp("z", 0, n, "data"))
	}
	return list
}

func opListArguments() [][]impl.Op {
	return [][]impl.Op{
		nil, {}, make([]impl.Op, 1), make([]impl.Op, 60), make([]impl.Op, 61), make([]impl.Op, 1<<12), someOps(), {makeOp("a"), eraseOp("a"), makeOp("a")},
		slices.Repeat([]impl.Op{purgeOp("in")}, 60), slices.Repeat([]impl.Op{purgeOp("in")}, 61), {purgeOp("in"), moveOp("in", "in"), purgeOp("In")}, {addOp("in", 1, 2, "new"), copyOp("in", "in", 1), flagOp("in", 1, 2, 1, 4)},
	}
}

func storeResultAnswer(call string, r impl.StoreResult) answer {
	if r.Store.Validity == 0 && len(r.Store.Boxes) == 0 && len(r.Uids) == 0 {
		return answer{call, r.Code, ""}
	}
	return answer{call, r.Code, fmt.Sprint(r.Uids, r.Store)}
}

func opsAnswers() []answer {
	var list []answer
	ops, lists := opArguments(), opListArguments()
	for i, o := range ops {
		list = append(list, answer{"OpFault " + strconv.Itoa(i), impl.OpFault(o), ""})
	}
	for i, s := range storeArguments() {
		at := strconv.Itoa(i) + " "
		for k, o := range ops {
			list = append(list, storeResultAnswer("ApplyOp "+at+strconv.Itoa(k), impl.ApplyOp(s, o)))
		}
		for k, all := range lists {
			list = append(list, storeResultAnswer("ApplyAll "+at+strconv.Itoa(k), impl.ApplyAll(s, all)))
		}
	}
	for i, a := range lists {
		for k, b := range lists {
			list = append(list, boolAnswer("SameOps "+strconv.Itoa(i)+" "+strconv.Itoa(k), impl.SameOps(a, b)))
		}
	}
	return list
}

// roomyOp is the same op in new memory, with something of the caller's behind its lists.
func roomyOp(o impl.Op) impl.Op {
	o.Uids = append(slices.Clone(o.Uids), 997, 998, 999)[:len(o.Uids)]
	o.Data = append(slices.Clone(o.Data), "behind"...)[:len(o.Data)]
	return o
}

func roomyOps(list []impl.Op) []impl.Op {
	var fresh []impl.Op
	for _, o := range list {
		fresh = append(fresh, roomyOp(o))
	}
	return append(fresh, roomyOp(purgeOp("in")), roomyOp(eraseOp("in")))[:len(list)]
}

// wholeOps tells all ops, with what is behind them and behind their lists.
func wholeOps(list []impl.Op) string {
	text := fmt.Sprint(len(list))
	for _, o := range list[:cap(list)] {
		text += fmt.Sprint(o, o.Uids[:cap(o.Uids)], o.Data[:cap(o.Data)])
	}
	return text
}

// shortOps leave out what is long: it takes no other way than what is a little too long.
func shortOps() []impl.Op {
	return slices.DeleteFunc(opArguments(), func(o impl.Op) bool { return len(o.Box) > 1000 || len(o.Uids) > 1000 || len(o.Data) > 1000 })
}

func shortLists() [][]impl.Op {
	return slices.DeleteFunc(opListArguments(), func(list []impl.Op) bool { return len(list) > 100 })
}

func shortStores() []impl.Store {
	return slices.DeleteFunc(slices.Concat(someStores(), faultyStores()), func(s impl.Store) bool { return len(s.Boxes) > 100 })
}

func TestStoresAndOpsStayAsTheyWere(t *testing.T) {
	lists := shortLists()
	for _, o := range shortOps() {
		lists = append(lists, []impl.Op{o}, []impl.Op{o, o})
	}
	for i, s := range append(shortStores(), store(9, box("in", 1, 9, 1, 4, 8), box("old", 2, 3, 2))) {
		for k, list := range lists {
			given, ops, other := roomy(s), roomyOps(list), roomyOps(list)
			before, opsBefore := wholeRoom(given), wholeOps(ops)
			for _, o := range ops {
				impl.OpFault(o)
				impl.ApplyOp(given, o)
			}
			impl.ApplyAll(given, ops)
			impl.SameOps(ops, other)
			impl.SameOps(other, someOps())
			if wholeRoom(given) != before {
				t.Errorf("store %d was changed by ops %d", i, k)
			}
			if wholeOps(ops) != opsBefore || wholeOps(other) != opsBefore {
				t.Errorf("ops %d were changed at store %d", k, i)
			}
		}
	}
}

func TestAnswersOfOpsHangOnWhatIsGivenNotOnItsRoom(t *testing.T) {
	for _, s := range shortStores() {
		for _, o := range shortOps() {
			askStore(t, opText(o), impl.ApplyOp(roomy(s), roomyOp(o)), impl.ApplyOp(s, o))
			askCode(t, opText(o), impl.OpFault(roomyOp(o)), impl.OpFault(o))
		}
		for k, list := range shortLists() {
			askStore(t, fmt.Sprint("list ", k), impl.ApplyAll(roomy(s), roomyOps(list)), impl.ApplyAll(s, list))
		}
	}
	for k, list := range shortLists() {
		askBool(t, fmt.Sprint("list ", k), impl.SameOps(list, roomyOps(list)), true)
		askBool(t, fmt.Sprint("list ", k), impl.SameOps(roomyOps(list), list), true)
	}
}

// wipeStore clears all lists of a store, and the room behind them, from the innermost on.
func wipeStore(s impl.Store) {
	for _, b := range s.Boxes[:cap(s.Boxes)] {
		for _, m := range b.Messages[:cap(b.Messages)] {
			clear(m.Data[:cap(m.Data)])
		}
		clear(b.Messages[:cap(b.Messages)])
	}
	clear(s.Boxes[:cap(s.Boxes)])
}

func wipeOps(list []impl.Op) {
	for _, o := range list {
		clear(o.Uids[:cap(o.Uids)])
		clear(o.Data[:cap(o.Data)])
	}
	clear(list)
}

func TestAnswersOfOpsAreNewMemory(t *testing.T) {
	plain := store(9, box("in", 1, 9, 1, 4, 8), box("old", 2, 3, 2))
	for _, s := range append(someStores(), plain) {
		for _, o := range slices.Concat(someOps(), []impl.Op{copyOp("in", "in", 1, 4), moveOp("in", "old", 2), purgeOp("old"), flagOp("in", 1, 0)}) {
			calls := map[string]func(impl.Store, impl.Op) impl.StoreResult{
				"ApplyOp":     impl.ApplyOp,
				"ApplyAll":    func(s impl.Store, o impl.Op) impl.StoreResult { return impl.ApplyAll(s, []impl.Op{o}) },
				"no ops":      func(s impl.Store, _ impl.Op) impl.StoreResult { return impl.ApplyAll(s, nil) },
				"both behind": func(s impl.Store, o impl.Op) impl.StoreResult { return impl.ApplyAll(s, []impl.Op{purgeOp("in"), o}) },
			}
			for what, call := range calls {
				askNewMemory(t, what+" "+opText(o), s, o, call)
			}
		}
	}
}

func askNewMemory(t *testing.T, what string, s impl.Store, o impl.Op, call func(impl.Store, impl.Op) impl.StoreResult) {
	t.Helper()
	given, op := roomy(s), roomyOp(o)
	before, opBefore := wholeRoom(given), wholeOps([]impl.Op{op})
	want := resultText(call(given, op))
	first, second := call(given, op), call(given, op)
	wipeStore(first.Store)
	clear(first.Uids[:cap(first.Uids)])
	if wholeRoom(given) != before || wholeOps([]impl.Op{op}) != opBefore {
		t.Errorf("%s: an answer shares memory with its argument", what)
	}
	wipeStore(given)
	wipeOps([]impl.Op{op})
	if resultText(second) != want {
		t.Errorf("%s: an answer shares memory with its argument or with another one", what)
	}
}

func TestNoTwoListsOfAnAnswerShareMemory(t *testing.T) {
	s := store(9, box("in", 1, 9, 1, 4, 8), box("old", 2, 3, 2))
	for _, o := range []impl.Op{copyOp("in", "old", 1, 4, 8), copyOp("in", "in", 1, 4, 8), moveOp("in", "old", 1, 8), flagOp("in", 1, 2, 1, 8), purgeOp("in"), addOp("old", 1, 1, "data"), eraseOp("in"), makeOp("new")} {
		// Each message in turn is put longer and turned, and so is the list in which it is: nothing else may change.
		for at, b := range impl.ApplyOp(s, o).Store.Boxes {
			for i := range b.Messages {
				got, want := impl.ApplyOp(s, o), impl.ApplyOp(s, o)
				m := &got.Store.Boxes[at].Messages[i]
				clear(m.Data)
				_ = append(m.Data, "and more behind it"...)
				_ = append(got.Store.Boxes[at].Messages, messages(77, 78)...)
				_ = append(got.Uids, 77, 78)
				m.Data = want.Store.Boxes[at].Messages[i].Data
				askStore(t, fmt.Sprint(opText(o), " message ", i, " of ", at), got, want)
			}
		}
	}
}
