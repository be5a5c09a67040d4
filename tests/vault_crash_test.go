package tests

import (
	"fmt"
	"math"
	"math/rand"
	"slices"
	"testing"

	"loop.example/g00447/impl"
)

// wantRecover goes by the document's words.
func wantRecover(sure []byte) impl.VaultResult {
	list, used := wantReadAll(sure)
	made := wantApplyAll(store(1), list)
	if made.Code != impl.OK {
		return impl.VaultResult{Code: made.Code}
	}
	return impl.VaultResult{Vault: impl.Vault{Up: true, Sure: sure[:used], Store: made.Store}}
}

func TestCrashes(t *testing.T) {
	list := deeds()
	for _, cut := range []int{0, 1, 8, len(list) - 1, len(list)} {
		v := upVault(list[:cut], list[cut:])
		size := int64(len(v.Loose))
		for kept := range size + 1 {
			askVault(t, fmt.Sprint(cut, " ops Sure, kept ", kept), impl.CrashVault(v, kept), impl.VaultResult{Vault: downVault(string(v.Sure) + string(v.Loose[:kept]))})
		}
		for _, kept := range []int64{math.MinInt64, math.MinInt64 + size, -size, -1, size + 1, size + 2, size + 8000, 1<<32 + 1, 1 << 32, math.MaxInt64} {
			if kept < 0 || kept > size {
				askVault(t, fmt.Sprint(cut, " ops Sure, kept ", kept), impl.CrashVault(v, kept), impl.VaultResult{Code: impl.ErrRange})
			}
		}
	}
	fresh := impl.NewVault().Vault
	askVault(t, "a new vault", impl.CrashVault(fresh, 0), impl.VaultResult{})
	askVault(t, "a new vault, one byte", impl.CrashVault(fresh, 1), impl.VaultResult{Code: impl.ErrRange})
	flushed := impl.FlushVault(upVault(nil, list)).Vault
	askVault(t, "all is Sure", impl.CrashVault(flushed, 0), impl.VaultResult{Vault: downVault(wantPackedAll(list))})
	askVault(t, "all is Sure, one byte", impl.CrashVault(flushed, 1), impl.VaultResult{Code: impl.ErrRange})
	askVault(t, "8000 bytes", impl.CrashVault(upVault(nil, bulk(8000)), 8000), impl.VaultResult{Vault: downVault(wantPackedAll(bulk(8000)))})
	askVault(t, "8001 bytes of 8000", impl.CrashVault(upVault(nil, bulk(8000)), 8001), impl.VaultResult{Code: impl.ErrRange})
}

func TestRecoveries(t *testing.T) {
	list := deeds()
	askVault(t, "nothing", impl.RecoverVault(impl.Vault{}), impl.NewVault())
	askVault(t, "lists of nothing", impl.RecoverVault(impl.Vault{Sure: []byte{}, Loose: []byte{}, Store: impl.Store{Boxes: []impl.Box{}}}), impl.NewVault())
	for count := range len(list) + 1 {
		data := wantPackedAll(list[:count])
		want := impl.VaultResult{Vault: upVault(list[:count], nil)}
		for _, behind := range []string{"", "\x00", "\x00\x09", "x", "\xff\xff\xff", wantPackedAll(list[:2])[:15], wantPackedAll(list)[1:], string(wantPacked(makeOp("In"))), "\x00" + wantPackedAll(list)} {
			askVault(t, fmt.Sprintf("%d ops and %.9q", count, behind), impl.RecoverVault(downVault(data+behind)), want)
		}
	}
	for _, none := range []string{"\x00", "bytes that are no ops", string(someBytes(8000)), string(make([]byte, 8000)), string(wantPacked(impl.Op{}))} {
		askVault(t, "bytes that are no ops", impl.RecoverVault(downVault(none)), impl.NewVault())
	}
	full := wantPackedAll(bulk(8000))
	askVault(t, "8000 bytes", impl.RecoverVault(downVault(full)), impl.VaultResult{Vault: upVault(bulk(8000), nil)})
	askVault(t, "8000 bytes but one", impl.RecoverVault(downVault(full[:7999])), impl.VaultResult{Vault: upVault(bulk(8000)[:len(bulk(8000))-1], nil)})
	askVault(t, "8001 bytes", impl.RecoverVault(downVault(full+"x")), impl.VaultResult{Code: impl.ErrMany})
}

func TestRecoveriesOfWhatCannotBeDone(t *testing.T) {
	list := deeds()
	codes := map[int64]int{}
	for place := 1; place <= 9; place++ {
		for _, wrong := range []impl.Op{makeOp("in"), eraseOp("none"), addOp("none", 0, 0, ""), flagOp("none", 1, 0, 1), copyOp("in", "none"), moveOp("in", "in", 1), purgeOp("none")} {
			code := wantApply(upVault(list[:place], nil).Store, wrong).Code
			for _, turned := range [][]impl.Op{slices.Insert(slices.Clone(list), place, wrong), append(slices.Clone(list[:place]), wrong)} {
				askVault(t, fmt.Sprint(opText(wrong), " at ", place), impl.RecoverVault(downVault(wantPackedAll(turned)+"\x00")), impl.VaultResult{Code: code})
			}
			codes[code]++
		}
	}
	six := append([]impl.Op{makeOp("in")}, slices.Repeat([]impl.Op{addOp("in", 0, 0, "")}, 7)...)
	askVault(t, "no room", impl.RecoverVault(downVault(wantPackedAll(six))), impl.VaultResult{Code: impl.ErrFull})
	askVault(t, "no room for a mailbox", impl.RecoverVault(downVault(wantPackedAll([]impl.Op{makeOp("a"), makeOp("b"), makeOp("c"), makeOp("d")}))), impl.VaultResult{Code: impl.ErrFull})
	for _, code := range []int64{impl.ErrTaken, impl.ErrNone, impl.ErrState} {
		if codes[code] == 0 {
			t.Errorf("no op has the code %d", code)
		}
	}
	for _, count := range []int{59, 60, 61, 62, 533} {
		want := impl.VaultResult{Code: impl.ErrMany}
		if count <= 60 {
			want = impl.VaultResult{Vault: upVault(countless(count), nil)}
		}
		askVault(t, fmt.Sprint(count, " ops"), impl.RecoverVault(downVault(wantPackedAll(countless(count)))), want)
		askVault(t, fmt.Sprint(count, " ops and half an op"), impl.RecoverVault(downVault(wantPackedAll(countless(count))+"\x00\x0f")), want)
	}
	// How many there are is asked ahead of what they do.
	wrong := append([]impl.Op{eraseOp("a")}, countless(60)...)
	askVault(t, "61 ops, of which the first cannot be done", impl.RecoverVault(downVault(wantPackedAll(wrong))), impl.VaultResult{Code: impl.ErrMany})
	askVault(t, "60 ops, of which the first cannot be done", impl.RecoverVault(downVault(wantPackedAll(wrong[:60]))), impl.VaultResult{Code: impl.ErrNone})
}

// askLasts crashes the vault at each byte that is Loose: what is Sure is there, and of the others the first whole ones.
func askLasts(t *testing.T, what string, v impl.Vault, sure, loose []impl.Op) {
	t.Helper()
	ends := endsOf(loose)
	for kept := range len(v.Loose) + 1 {
		whole, _ := slices.BinarySearch(ends, kept+1)
		asking := fmt.Sprint(what, ", kept ", kept)
		crashed := impl.CrashVault(v, int64(kept))
		askCode(t, asking, crashed.Code, impl.OK)
		askCode(t, asking, impl.VaultFault(crashed.Vault), impl.OK)
		back := impl.RecoverVault(crashed.Vault)
		askVault(t, asking, back, impl.VaultResult{Vault: upVault(slices.Concat(sure, loose[:whole-1]), nil)})
		askCode(t, asking, impl.VaultFault(back.Vault), impl.OK)
	}
}

func TestACrashAndARecoveryBehindEachOp(t *testing.T) {
	list := deeds()
	for place := range len(list) + 1 {
		for _, cut := range []int{0, place / 2, place} {
			v := impl.NewVault().Vault
			for _, o := range list[:cut] {
				v = impl.DoVault(v, o).Vault
			}
			for _, o := range list[cut:place] {
				v = impl.WriteVault(v, o).Vault
			}
			askLasts(t, fmt.Sprint(place, " ops, ", cut, " of them done"), v, list[:cut], list[cut:place])
		}
	}
}

func TestWhateverCrashesWhatWasDoneIsThere(t *testing.T) {
	for seed := range int64(8) {
		draw := rand.New(rand.NewSource(seed))
		v := impl.NewVault().Vault
		var sure, loose []impl.Op
		for range 200 {
			o := anyOp(draw)
			switch draw.Intn(12) {
			case 0:
				v = impl.FlushVault(v).Vault
				sure, loose = append(sure, loose...), nil
			case 1:
				kept := draw.Intn(len(v.Loose) + 1)
				whole, _ := slices.BinarySearch(endsOf(loose), kept+1)
				v = impl.RecoverVault(impl.CrashVault(v, int64(kept)).Vault).Vault
				sure, loose = append(sure, loose[:whole-1]...), nil
			case 2, 3, 4:
				if got := impl.DoVault(v, o); got.Code == impl.OK {
					v = got.Vault
					sure, loose = append(append(sure, loose...), o), nil
				}
			default:
				if got := impl.WriteVault(v, o); got.Code == impl.OK {
					v, loose = got.Vault, append(loose, o)
				}
			}
			askVault(t, fmt.Sprint("seed ", seed), impl.VaultResult{Vault: v}, impl.VaultResult{Vault: upVault(sure, loose)})
			askCode(t, fmt.Sprint("seed ", seed), impl.VaultFault(v), impl.OK)
		}
		askLasts(t, fmt.Sprint("seed ", seed), v, sure, loose)
	}
}

func TestAnyBytesAreRecoveredAsFarAsTheyAreWhole(t *testing.T) {
	draw := rand.New(rand.NewSource(10))
	codes := map[int64]int{}
	for range 1500 {
		data := []byte(wantPackedAll(deeds()[:draw.Intn(9)]))
		for range draw.Intn(4) {
			data = append(data, turnedBytes(draw)...)
		}
		if len(data) > 0 && draw.Intn(3) == 0 {
			data[draw.Intn(len(data))] ^= byte(draw.Intn(256))
		}
		got := impl.RecoverVault(downVault(string(data)))
		askVault(t, "bytes", got, wantRecover(data))
		codes[got.Code]++
		if got.Code == impl.OK {
			askCode(t, "bytes", impl.VaultFault(got.Vault), impl.OK)
		}
	}
	if codes[impl.OK] < 300 || codes[impl.ErrNone] < 20 {
		t.Errorf("too few of one kind were asked: %v", codes)
	}
}
