package tests

import (
	"fmt"
	"maps"
	"slices"
	"strconv"
	"testing"
	"unsafe"

	"loop.example/g00447/impl"
)

// goodVaults have no fault: some are Up, with ops that are Sure, Loose, both, many and none, and some are not.
func goodVaults() []impl.Vault {
	list := []impl.Vault{
		{}, impl.NewVault().Vault, {Up: true, Sure: []byte{}, Loose: []byte{}, Store: impl.Store{Validity: 1, Boxes: []impl.Box{}}},
		upVault(countless(60), nil), upVault(nil, countless(60)), upVault(bulk(6000), nil), upVault(bulk(8000)[:9], bulk(8000)[9:]),
		downVault("x"), downVault(wantPackedAll(deeds())), downVault(wantPackedAll(deeds()) + "\x00\x09"), downVault(wantPackedAll(countless(61))), downVault(string(someBytes(8000))), downVault(wantPackedAll(deeds()[1:])),
	}
	set := []impl.Op{flagOp("in", impl.ModeSet, 1, 1, 2), flagOp("in", impl.ModeSet, 6, 1, 2), flagOp("in", impl.ModeSet, 9, 1, 2)}
	for _, ops := range [][]impl.Op{deeds(), deeds()[:12], append(deeds()[:6], set...), append(twoMailboxes(), set...)} {
		for _, cut := range []int{0, 3, len(ops) - 1, len(ops)} {
			list = append(list, upVault(ops[:cut], ops[cut:]))
		}
	}
	return list
}

func vaultArguments() []impl.Vault {
	list := append(goodVaults(), faultyVaults()...)
	for _, s := range append(shortStores(), store(0), fullStore()) {
		list = append(list, impl.Vault{Store: s}, impl.Vault{Up: true, Store: s}, impl.Vault{Up: true, Sure: []byte(wantPackedAll(deeds())), Store: s})
	}
	return list
}

func vaultOps() []impl.Op {
	return slices.Concat(someOps(), fullOps()[2:4], []impl.Op{{}, makeOp("In"), makeOp("z"), addOp("in", 1, 2, "more"), addOp("old", 0, 0, ""), addOp("a", 0, 0, "some"), flagOp("in", impl.ModeSet, 4, 1, 2), flagOp("in", 4, 0), copyOp("in", "in", 1, 2), purgeOp("old"), eraseOp("a"), addOp("in", 0, 0, string(someBytes(401)))})
}

func keptArguments() []int64 {
	return append(numberArguments(), 15, 16, 17, 40, 5999, 7999, 8000, 8001)
}

func vaultAnswer(call string, r impl.VaultResult) answer {
	if len(r.Uids) == 0 && vaultText(r.Vault) == vaultText(impl.Vault{}) {
		return answer{call, r.Code, ""}
	}
	return answer{call, r.Code, fmt.Sprint(r.Uids, vaultText(r.Vault))}
}

// callsOfVaults are all calls that give a vault, with all that is given beside it.
func callsOfVaults(ops []impl.Op) map[string]func(v impl.Vault) impl.VaultResult {
	calls := map[string]func(v impl.Vault) impl.VaultResult{"FlushVault": impl.FlushVault, "RecoverVault": impl.RecoverVault, "TidyVault": impl.TidyVault}
	for i, o := range ops {
		calls["DoVault "+strconv.Itoa(i)] = func(v impl.Vault) impl.VaultResult { return impl.DoVault(v, o) }
		calls["WriteVault "+strconv.Itoa(i)] = func(v impl.Vault) impl.VaultResult { return impl.WriteVault(v, o) }
	}
	for _, kept := range keptArguments() {
		calls["CrashVault "+strconv.FormatInt(kept, 10)] = func(v impl.Vault) impl.VaultResult { return impl.CrashVault(v, kept) }
	}
	return calls
}

func vaultAnswers() []answer {
	list := []answer{vaultAnswer("NewVault", impl.NewVault())}
	calls := callsOfVaults(vaultOps())
	names := slices.Sorted(maps.Keys(calls))
	for i, v := range vaultArguments() {
		at := " of " + strconv.Itoa(i)
		list = append(list, answer{"VaultFault" + at, impl.VaultFault(v), ""})
		for _, name := range names {
			list = append(list, vaultAnswer(name+at, calls[name](v)))
		}
	}
	return list
}

// roomyVault is the same vault in new memory, with something of the caller's behind its lists: more of its journal, where it tells ops.
func roomyVault(v impl.Vault) impl.Vault {
	behind := append([]byte(wantPackedAll(deeds()[:2])), "behind"...)
	v.Sure = append(slices.Clone(v.Sure), behind...)[:len(v.Sure)]
	v.Loose = append(slices.Clone(v.Loose), behind...)[:len(v.Loose)]
	v.Store = roomy(v.Store)
	return v
}

// wholeVault tells all of a vault, with what is behind its lists.
func wholeVault(v impl.Vault) string {
	return fmt.Sprint(v.Up, len(v.Sure), v.Sure[:cap(v.Sure)], len(v.Loose), v.Loose[:cap(v.Loose)], wholeRoom(v.Store))
}

func TestVaultsAndTheirOpsStayAsTheyWere(t *testing.T) {
	ops := roomyOps(vaultOps())
	opsBefore := wholeOps(ops)
	calls := callsOfVaults(ops)
	for i, v := range vaultArguments() {
		given := roomyVault(v)
		before := wholeVault(given)
		impl.VaultFault(given)
		for what, call := range calls {
			call(given)
			if wholeVault(given) != before {
				t.Fatalf("%s changed vault %d", what, i)
			}
		}
	}
	if wholeOps(ops) != opsBefore {
		t.Error("the ops were changed")
	}
}

func TestAnswersOfVaultsHangOnWhatIsGivenNotOnItsRoom(t *testing.T) {
	calls, roomyCalls := callsOfVaults(vaultOps()), callsOfVaults(roomyOps(vaultOps()))
	for i, v := range vaultArguments() {
		askCode(t, fmt.Sprint("vault ", i), impl.VaultFault(roomyVault(v)), impl.VaultFault(v))
		for what, call := range calls {
			askVault(t, fmt.Sprint(what, " of vault ", i), roomyCalls[what](roomyVault(v)), call(v))
		}
	}
}

// span is where a list lies in memory, with the room behind it.
type span struct {
	what     string
	from, to uintptr
}

func spanOf[T any](what string, list []T) span {
	var one T
	from := uintptr(unsafe.Pointer(unsafe.SliceData(list)))
	return span{what, from, from + uintptr(cap(list))*unsafe.Sizeof(one)}
}

func spansOfVault(what string, v impl.Vault) []span {
	list := []span{spanOf(what+" Sure", v.Sure), spanOf(what+" Loose", v.Loose), spanOf(what+" Boxes", v.Store.Boxes)}
	for i, b := range v.Store.Boxes {
		list = append(list, spanOf(fmt.Sprint(what, " Messages of ", i), b.Messages))
		for k, m := range b.Messages {
			list = append(list, spanOf(fmt.Sprint(what, " Data of ", i, " ", k), m.Data))
		}
	}
	return list
}

func spansOfOps(list []impl.Op) []span {
	var spans []span
	for i, o := range list {
		spans = append(spans, spanOf(fmt.Sprint("Uids of op ", i), o.Uids), spanOf(fmt.Sprint("Data of op ", i), o.Data))
	}
	return spans
}

// askApart asks that none of the lists lies where another one lies.
func askApart(t *testing.T, what string, list []span) {
	t.Helper()
	for i, a := range list {
		for _, b := range list[:i] {
			if a.from < b.to && b.from < a.to {
				t.Errorf("%s: %s and %s share memory", what, a.what, b.what)
			}
		}
	}
}

func TestSpansThatShareMemoryAreSeen(t *testing.T) {
	data := make([]byte, 9, 20)
	apart := func(a, b []byte) bool {
		x, y := spanOf("", a), spanOf("", b)
		return x.from >= y.to || y.from >= x.to
	}
	askBool(t, "itself", apart(data, data), false)
	askBool(t, "the room behind it", apart(data[:2], data[5:]), false)
	askBool(t, "no room behind it", apart(data[:5:5], data[5:]), true)
	askBool(t, "another one", apart(data, make([]byte, 9)), true)
	askBool(t, "nothing", apart(data, nil), true)
}

func TestListsInAnswersOfVaultsAreNewMemory(t *testing.T) {
	ops := roomyOps(vaultOps())
	calls := callsOfVaults(ops)
	told := map[int64]int{}
	for i, v := range goodVaults() {
		given := roomyVault(v)
		for what, call := range calls {
			first, second := call(given), call(given)
			told[first.Code]++
			list := slices.Concat(spansOfVault("given", given), spansOfOps(ops), spansOfVault("first", first.Vault), spansOfVault("second", second.Vault))
			list = append(list, spanOf("Uids of the first", first.Uids), spanOf("Uids of the second", second.Uids))
			askApart(t, fmt.Sprint(what, " of vault ", i), list)
		}
	}
	a, b := impl.NewVault().Vault, impl.NewVault().Vault
	askApart(t, "NewVault", append(spansOfVault("first", a), spansOfVault("second", b)...))
	if told[impl.OK] < 100 {
		t.Errorf("only %d calls had an answer", told[impl.OK])
	}
}

// wipeVault clears all lists of a vault, and the room behind them.
func wipeVault(v impl.Vault) {
	clear(v.Sure[:cap(v.Sure)])
	clear(v.Loose[:cap(v.Loose)])
	wipeStore(v.Store)
}

func TestAnswersOfVaultsStayWhateverBecomesOfWhatWasGiven(t *testing.T) {
	for i, v := range goodVaults() {
		ops := roomyOps(vaultOps())
		given := roomyVault(v)
		before := wholeVault(given)
		want, got := map[string]answer{}, map[string]impl.VaultResult{}
		for what, call := range callsOfVaults(ops) {
			got[what] = call(given)
			want[what] = vaultAnswer(what, got[what])
			other := call(given)
			wipeVault(other.Vault)
			clear(other.Uids[:cap(other.Uids)])
		}
		if wholeVault(given) != before {
			t.Errorf("an answer shares memory with vault %d", i)
		}
		wipeVault(given)
		wipeOps(ops)
		for what, r := range got {
			askSame(t, vaultAnswer(what, r), want[what])
		}
	}
}
