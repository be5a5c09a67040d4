package tests

import (
	"fmt"
	"math/rand"
	"slices"
	"testing"

	"loop.example/g00447/impl"
)

// wantWrite goes by the document's words, from the ops that the vault is made of.
func wantWrite(sure, loose []impl.Op, o impl.Op) impl.VaultResult {
	all := slices.Concat(sure, loose)
	done := wantApply(upVault(sure, loose).Store, o)
	if done.Code != impl.OK {
		return impl.VaultResult{Code: done.Code}
	}
	if len(wantPackedAll(append(all, o))) > 6000 || len(all)+1 > 60 {
		return impl.VaultResult{Code: impl.ErrFull}
	}
	return impl.VaultResult{Uids: done.Uids, Vault: upVault(sure, append(slices.Clone(loose), o))}
}

func wantDo(sure, loose []impl.Op, o impl.Op) impl.VaultResult {
	want := wantWrite(sure, loose, o)
	if want.Code == impl.OK {
		want.Vault = upVault(append(slices.Concat(sure, loose), o), nil)
	}
	return want
}

// askWritten asks both ways of doing an op, and that it cannot be told apart whether a flush is done at once or later.
func askWritten(t *testing.T, what string, sure, loose []impl.Op, o impl.Op) int64 {
	t.Helper()
	v := upVault(sure, loose)
	written, done := impl.WriteVault(v, o), impl.DoVault(v, o)
	askVault(t, what+" is written", written, wantWrite(sure, loose, o))
	askVault(t, what+" is done", done, wantDo(sure, loose, o))
	if written.Code == impl.OK {
		askCode(t, what, impl.VaultFault(written.Vault), impl.OK)
		askCode(t, what, impl.VaultFault(done.Vault), impl.OK)
		askVault(t, what+" is flushed later", impl.FlushVault(written.Vault), impl.VaultResult{Vault: done.Vault})
	}
	return written.Code
}

func TestOpsWrittenByHand(t *testing.T) {
	fresh := impl.NewVault().Vault
	in := "\x00\x10\x01\x02in\x00\x00\x00\x00\x00\x00\x00\x00\x35\xb7"
	add := "\x00\x14\x03\x02in\x00\x00\x00\x09\x01\x00\x00\x04data\x7d\x7e"
	made := impl.DoVault(fresh, makeOp("in"))
	askVault(t, "made", made, impl.VaultResult{Vault: impl.Vault{Up: true, Sure: []byte(in), Store: store(2, box("in", 1, 1))}})
	askVault(t, "made, and Loose", impl.WriteVault(fresh, makeOp("in")), impl.VaultResult{Vault: impl.Vault{Up: true, Loose: []byte(in), Store: store(2, box("in", 1, 1))}})
	full := store(2, impl.Box{Name: "in", Validity: 1, Next: 2, Messages: []impl.Message{{Uid: 1, Flags: 9, Date: 256, Data: []byte("data")}}})
	written := impl.WriteVault(made.Vault, addOp("in", 9, 256, "data"))
	askVault(t, "added, and Loose", written, impl.VaultResult{Uids: []int64{1}, Vault: impl.Vault{Up: true, Sure: []byte(in), Loose: []byte(add), Store: full}})
	askVault(t, "added", impl.DoVault(made.Vault, addOp("in", 9, 256, "data")), impl.VaultResult{Uids: []int64{1}, Vault: impl.Vault{Up: true, Sure: []byte(in + add), Store: full}})
	askVault(t, "flushed", impl.FlushVault(written.Vault), impl.VaultResult{Vault: impl.Vault{Up: true, Sure: []byte(in + add), Store: full}})
}

func TestOpsOfEachKindAreWritten(t *testing.T) {
	list := deeds()
	kinds := map[int64]int{}
	for place, o := range list {
		for cut := range place + 1 {
			code := askWritten(t, fmt.Sprint("op ", place, ", ", cut, " Sure"), list[:cut], list[cut:place], o)
			askCode(t, opText(o), code, impl.OK)
			kinds[o.Kind]++
		}
	}
	if len(kinds) != 7 {
		t.Errorf("only these Kinds were written: %v", kinds)
	}
}

func TestOpsThatCannotBeWritten(t *testing.T) {
	list := deeds()
	codes := map[int64]int{}
	wrong := slices.Concat(faultyOps(), shortOps(), opsForStores()[:60])
	for _, place := range []int{0, 3, 9, len(list)} {
		for _, o := range wrong {
			codes[askWritten(t, fmt.Sprint(opText(o), " behind ", place), list[:place/2], list[place/2:place], o)]++
		}
	}
	for _, code := range []int64{impl.OK, impl.ErrForm, impl.ErrText, impl.ErrRange, impl.ErrMany, impl.ErrTaken, impl.ErrNone, impl.ErrState} {
		if codes[code] == 0 {
			t.Errorf("no op has the code %d", code)
		}
	}
	six := append([]impl.Op{makeOp("in"), makeOp("old"), makeOp("z")}, slices.Repeat([]impl.Op{addOp("in", 0, 0, "")}, 6)...)
	for _, o := range []impl.Op{makeOp("new"), addOp("in", 0, 0, ""), copyOp("in", "in", 1)} {
		askCode(t, opText(o), askWritten(t, opText(o), six[:4], six[4:], o), impl.ErrFull)
	}
}

func TestAJournalThatHasNoRoomForTheBytes(t *testing.T) {
	for _, size := range []int{5584, 5585, 5586, 5984, 5985, 5986, 5999, 6000, 6001, 7999, 8000} {
		list := bulk(size)
		for _, o := range []impl.Op{purgeOp("a"), sized(415), makeOp("b"), flagOp("a", impl.ModeSet, 1), flagOp("a", impl.ModeSet, 1, 1, 2, 3, 4, 5, 6)} {
			done := wantApply(upVault(list, nil).Store, o)
			if done.Code != impl.OK {
				t.Fatalf("%s cannot be done behind %d bytes: code %d", opText(o), size, done.Code)
			}
			want := int64(impl.OK)
			if size+len(wantPacked(o)) > 6000 {
				want = impl.ErrFull
			}
			for _, cut := range []int{0, 1, len(list) / 2, len(list) - 1, len(list)} {
				askCode(t, opText(o), askWritten(t, fmt.Sprint(opText(o), " behind ", size, " bytes, ", cut, " ops Sure"), list[:cut], list[cut:], o), want)
			}
		}
	}
	// 6000 and 6001 bytes in all.
	askVault(t, "6000 bytes", impl.WriteVault(upVault(bulk(5985), nil), purgeOp("a")), impl.VaultResult{Vault: upVault(bulk(5985), []impl.Op{purgeOp("a")})})
	askVault(t, "6001 bytes", impl.WriteVault(upVault(bulk(5986), nil), purgeOp("a")), impl.VaultResult{Code: impl.ErrFull})
	askVault(t, "6000 bytes done", impl.DoVault(upVault(nil, bulk(5985)), purgeOp("a")), impl.VaultResult{Vault: upVault(append(bulk(5985), purgeOp("a")), nil)})
	askVault(t, "6001 bytes done", impl.DoVault(upVault(nil, bulk(5986)), purgeOp("a")), impl.VaultResult{Code: impl.ErrFull})
	// What cannot be done is told ahead of what has no room.
	for what, o := range map[int64]impl.Op{impl.ErrTaken: makeOp("a"), impl.ErrNone: eraseOp("none"), impl.ErrForm: {}, impl.ErrText: makeOp("A"), impl.ErrRange: flagOp("a", 0, 0), impl.ErrMany: sized(416), impl.ErrState: moveOp("a", "a")} {
		askVault(t, opText(o), impl.WriteVault(upVault(bulk(8000), nil), o), impl.VaultResult{Code: what})
		askVault(t, opText(o), impl.DoVault(upVault(bulk(6000), nil), o), impl.VaultResult{Code: what})
	}
}

func TestAJournalThatHasNoRoomForTheOp(t *testing.T) {
	for count := 57; count <= 60; count++ {
		list := countless(count)
		o, want := []impl.Op{makeOp("a"), eraseOp("a")}[count%2], int64(impl.OK)
		if count == 60 {
			want = impl.ErrFull
		}
		for _, cut := range []int{0, 1, 30, count - 1, count} {
			askCode(t, fmt.Sprint(count), askWritten(t, fmt.Sprint("an op behind ", count, ", ", cut, " Sure"), list[:cut], list[cut:], o), want)
		}
	}
	for what, o := range map[int64]impl.Op{impl.ErrNone: eraseOp("a"), impl.ErrForm: {}, impl.ErrText: makeOp("A"), impl.ErrRange: flagOp("a", 0, 0), impl.ErrMany: sized(416)} {
		askVault(t, opText(o), impl.WriteVault(upVault(countless(60), nil), o), impl.VaultResult{Code: what})
		askVault(t, opText(o), impl.DoVault(upVault(nil, countless(60)), o), impl.VaultResult{Code: what})
	}
	// From nothing on, op by op.
	v, written := impl.NewVault().Vault, impl.NewVault().Vault
	for place, o := range countless(60) {
		v, written = impl.DoVault(v, o).Vault, impl.WriteVault(written, o).Vault
		askVault(t, fmt.Sprint(place+1, " ops done"), impl.VaultResult{Vault: v}, impl.VaultResult{Vault: upVault(countless(place+1), nil)})
		askVault(t, fmt.Sprint(place+1, " ops written"), impl.VaultResult{Vault: written}, impl.VaultResult{Vault: upVault(nil, countless(place+1))})
	}
	askVault(t, "the 61st done", impl.DoVault(v, makeOp("a")), impl.VaultResult{Code: impl.ErrFull})
	askVault(t, "the 61st written", impl.WriteVault(written, makeOp("a")), impl.VaultResult{Code: impl.ErrFull})
}

func TestFlushes(t *testing.T) {
	askVault(t, "a new vault", impl.FlushVault(impl.NewVault().Vault), impl.NewVault())
	for _, list := range [][]impl.Op{deeds(), countless(60), bulk(6000), bulk(8000)} {
		for _, cut := range []int{0, 1, 2, len(list) / 2, len(list) - 1, len(list)} {
			got := impl.FlushVault(upVault(list[:cut], list[cut:]))
			askVault(t, fmt.Sprint(cut, " of ", len(list), " ops Sure"), got, impl.VaultResult{Vault: upVault(list, nil)})
			askVault(t, fmt.Sprint(cut, " of ", len(list), " ops Sure, once more"), impl.FlushVault(got.Vault), got)
		}
	}
}

func TestUidsThatAreTold(t *testing.T) {
	list := []struct {
		op   impl.Op
		uids []int64
	}{
		{makeOp("in"), nil}, {makeOp("old"), nil}, {addOp("in", 0, 0, "a"), []int64{1}}, {addOp("in", 8, 0, "b"), []int64{2}}, {addOp("in", 0, 0, "c"), []int64{3}}, {addOp("old", 0, 0, "d"), []int64{1}},
		{flagOp("in", impl.ModeMore, 1, 1, 3, 9), []int64{1, 3}}, {flagOp("in", impl.ModeLess, 1, 7), nil}, {copyOp("in", "old", 1, 2, 9), []int64{2, 3}}, {moveOp("in", "old", 3), []int64{4}}, {moveOp("in", "old"), nil},
		{purgeOp("in"), []int64{2}}, {purgeOp("in"), nil}, {purgeOp("old"), []int64{3}}, {eraseOp("in"), nil},
	}
	done, written := impl.NewVault(), impl.NewVault()
	for place, l := range list {
		s := done.Vault.Store
		done, written = impl.DoVault(done.Vault, l.op), impl.WriteVault(written.Vault, l.op)
		for what, got := range map[string]impl.VaultResult{"done": done, "written": written} {
			if got.Code != impl.OK || !slices.Equal(got.Uids, l.uids) {
				t.Errorf("op %d %s: got code %d, %v, want %v", place, what, got.Code, got.Uids, l.uids)
			}
			askStore(t, opText(l.op)+what, impl.StoreResult{Uids: got.Uids, Store: got.Vault.Store}, impl.ApplyOp(s, l.op))
		}
		askVault(t, "a flush tells no Uids", impl.FlushVault(written.Vault), impl.VaultResult{Vault: done.Vault})
	}
}

// vaultCalls are all functions that are given a vault.
func vaultCalls() map[string]func(v impl.Vault) impl.VaultResult {
	return map[string]func(v impl.Vault) impl.VaultResult{
		"DoVault":              func(v impl.Vault) impl.VaultResult { return impl.DoVault(v, makeOp("new")) },
		"DoVault, a fault":     func(v impl.Vault) impl.VaultResult { return impl.DoVault(v, impl.Op{}) },
		"WriteVault":           func(v impl.Vault) impl.VaultResult { return impl.WriteVault(v, makeOp("new")) },
		"WriteVault, a fault":  func(v impl.Vault) impl.VaultResult { return impl.WriteVault(v, makeOp("New")) },
		"FlushVault":           impl.FlushVault,
		"CrashVault":           func(v impl.Vault) impl.VaultResult { return impl.CrashVault(v, 0) },
		"CrashVault below":     func(v impl.Vault) impl.VaultResult { return impl.CrashVault(v, -1) },
		"CrashVault too large": func(v impl.Vault) impl.VaultResult { return impl.CrashVault(v, 9000) },
		"TidyVault":            impl.TidyVault,
		"RecoverVault":         impl.RecoverVault,
	}
}

// faultyVaults have each fault that a vault can have.
func faultyVaults() []impl.Vault {
	behind, loose, other := upVault(deeds(), nil), upVault(deeds()[:4], deeds()[4:]), upVault(deeds(), nil)
	behind.Sure = append(behind.Sure, 0)
	loose.Loose = append(loose.Loose, wantPackedAll(deeds()[:1])[:15]...)
	other.Store.Boxes[0].Next++
	pieces := upVault(deeds(), nil)
	pieces.Sure, pieces.Loose = pieces.Sure[:20], pieces.Sure[20:]
	down := upVault(deeds(), nil)
	down.Up = false
	return []impl.Vault{
		{Up: true}, {Sure: someBytes(8001)}, {Up: true, Sure: someBytes(4001), Loose: someBytes(4000), Store: store(1)}, upVault(bulk(4001), bulk(4000)), behind, loose, other, pieces, down,
		{Loose: []byte("x")}, {Store: store(1)}, {Store: impl.Store{Boxes: []impl.Box{{}}}}, {Up: true, Store: store(2)}, {Up: true, Store: store(9, box("In", 1, 1))}, {Up: true, Store: store(9, make([]impl.Box, 4)...)},
		upVault(countless(61), nil), upVault(nil, countless(61)), upVault([]impl.Op{eraseOp("in")}, nil), upVault(deeds()[1:], deeds()[:1]),
	}
}

func TestEachFunctionOfAVaultWithAFault(t *testing.T) {
	codes := map[int64]int{}
	for i, v := range faultyVaults() {
		code := wantVaultFault(v)
		codes[code]++
		for what, call := range vaultCalls() {
			askVault(t, fmt.Sprint(what, " of vault ", i), call(v), impl.VaultResult{Code: code})
		}
	}
	for _, code := range []int64{impl.ErrMany, impl.ErrForm, impl.ErrRange, impl.ErrText, impl.ErrState} {
		if codes[code] == 0 {
			t.Errorf("no vault has the code %d", code)
		}
	}
	if codes[impl.OK] != 0 {
		t.Error("a vault has no fault")
	}
	// The store's own codes come through.
	for _, s := range faultyStores() {
		for what, call := range vaultCalls() {
			askVault(t, what, call(impl.Vault{Up: true, Store: s}), impl.VaultResult{Code: wantStoreFault(s)})
		}
	}
}

func TestEachFunctionOfAVaultThatIsNotUp(t *testing.T) {
	for _, journal := range []string{"", "x", wantPackedAll(deeds()), wantPackedAll(deeds()) + "\x00", wantPackedAll(countless(61)), string(someBytes(8000)), wantPackedAll([]impl.Op{eraseOp("in")})} {
		for what, call := range vaultCalls() {
			if what != "RecoverVault" {
				askVault(t, what+" of one that is not Up", call(downVault(journal)), impl.VaultResult{Code: impl.ErrState})
			}
		}
	}
	for _, v := range []impl.Vault{impl.NewVault().Vault, upVault(deeds(), nil), upVault(deeds()[:5], deeds()[5:]), upVault(nil, bulk(8000))} {
		askVault(t, "RecoverVault of one that is Up", impl.RecoverVault(v), impl.VaultResult{Code: impl.ErrState})
	}
}

func TestAVaultDoesWhatAStoreDoes(t *testing.T) {
	for seed := range int64(12) {
		draw := rand.New(rand.NewSource(seed))
		v, s := impl.NewVault().Vault, store(1)
		var sure, loose []impl.Op
		for range 240 {
			o, isDone := anyOp(draw), draw.Intn(2) == 0
			what := fmt.Sprint("seed ", seed, ": ", opText(o))
			got, want := impl.WriteVault(v, o), wantWrite(sure, loose, o)
			if isDone {
				got, want = impl.DoVault(v, o), wantDo(sure, loose, o)
			}
			askVault(t, what, got, want)
			done := impl.ApplyOp(s, o)
			if got.Code != impl.OK {
				if got.Code != done.Code && len(sure)+len(loose) < 60 {
					t.Errorf("%s: the vault tells code %d, the store code %d", what, got.Code, done.Code)
				}
				continue
			}
			askStore(t, what, impl.StoreResult{Uids: got.Uids, Store: got.Vault.Store}, done)
			v, s, loose = got.Vault, done.Store, append(loose, o)
			if isDone {
				sure, loose = append(sure, loose...), nil
			}
			// Its journal tells it.
			told := impl.ReadJournal(slices.Concat(v.Sure, v.Loose))
			askStore(t, what, impl.ApplyAll(store(1), told.Ops), impl.StoreResult{Store: s})
			askBool(t, what, impl.SameOps(told.Ops, slices.Concat(sure, loose)), true)
			askCode(t, what, impl.VaultFault(v), impl.OK)
		}
		if len(sure)+len(loose) < 30 {
			t.Errorf("seed %d: only %d ops were done", seed, len(sure)+len(loose))
		}
	}
}
