package tests

import (
	"fmt"
	"math"
	"slices"
	"testing"

	"loop.example/g00447/impl"
)

// upVault has a journal of these ops, and the store that the document's words make of them, whether they can be done or not.
func upVault(sure, loose []impl.Op) impl.Vault {
	made := wantApplyAll(store(1), slices.Concat(sure, loose))
	if made.Code != impl.OK {
		made.Store = store(1)
	}
	return impl.Vault{Up: true, Sure: []byte(wantPackedAll(sure)), Loose: []byte(wantPackedAll(loose)), Store: made.Store}
}

// downVault is what a crash leaves.
func downVault(sure string) impl.Vault {
	return impl.Vault{Sure: []byte(sure)}
}

// deeds are ops of each Kind, in each Mode, that can be done one behind the other from nothing on.
func deeds() []impl.Op {
	return []impl.Op{
		makeOp("in"), addOp("in", 1, 2, "a"), addOp("in", 8, 9999, "b\n"), makeOp("old"), flagOp("in", impl.ModeSet, 6, 1), copyOp("in", "old", 1, 2), purgeOp("in"),
		flagOp("old", impl.ModeMore, 8, 1), moveOp("in", "old", 1, 7), flagOp("old", impl.ModeLess, 2, 1, 3), addOp("in", 0, 0, ""), makeOp("abcdefgh"), eraseOp("old"), makeOp("old"), eraseOp("in"),
	}
}

// bulk are ops that can be done from nothing on, and that have just so many bytes, which are 500 or more.
func bulk(size int) []impl.Op {
	list := []impl.Op{makeOp("a")}
	size -= 15
	for added := 0; size > 0; added++ {
		if added == impl.MaxMessages {
			list = append(list, eraseOp("a"), makeOp("a"))
			size -= 30
			added = 0
		}
		next := min(size, 400)
		if next < size && size-next < 100 {
			next -= 100
		}
		list = append(list, sized(next))
		size -= next
	}
	return list
}

// countless are ops that can be done from nothing on, just so many.
func countless(count int) []impl.Op {
	list := slices.Repeat([]impl.Op{makeOp("a"), eraseOp("a")}, count/2+1)
	return list[:count]
}

// vaultText is the same for nothing and nil.
func vaultText(v impl.Vault) string {
	return fmt.Sprintf("up %v, sure %q, loose %q, store %v", v.Up, v.Sure, v.Loose, v.Store)
}

func askVault(t *testing.T, what string, got, want impl.VaultResult) {
	t.Helper()
	if got.Code != want.Code || !slices.Equal(got.Uids, want.Uids) || vaultText(got.Vault) != vaultText(want.Vault) {
		t.Errorf("%s:\ngot  code %d, Uids %v, %.900s\nwant code %d, Uids %v, %.900s", what, got.Code, got.Uids, vaultText(got.Vault), want.Code, want.Uids, vaultText(want.Vault))
	}
}

func wantReadAll(data []byte) (list []impl.Op, used int) {
	for {
		o, size, ok := wantRead(data[used:])
		if !ok {
			return list, used
		}
		list = append(list, o)
		used += int(size)
	}
}

// wantVaultFault goes by the document's words.
func wantVaultFault(v impl.Vault) int64 {
	if len(v.Sure)+len(v.Loose) > 8000 {
		return impl.ErrMany
	}
	if !v.Up {
		return firstCode(asked{len(v.Loose) != 0 || v.Store.Validity != 0 || len(v.Store.Boxes) != 0, impl.ErrForm})
	}
	sure, sureUsed := wantReadAll(v.Sure)
	loose, looseUsed := wantReadAll(v.Loose)
	made := wantApplyAll(store(1), slices.Concat(sure, loose))
	return firstCode(
		asked{wantStoreFault(v.Store) != 0, wantStoreFault(v.Store)},
		asked{sureUsed != len(v.Sure) || looseUsed != len(v.Loose), impl.ErrText},
		asked{made.Code != impl.OK || fmt.Sprint(made.Store) != fmt.Sprint(v.Store), impl.ErrState})
}

// askVaultFault asks what the words of the document say, and what is written out beside it.
func askVaultFault(t *testing.T, what string, v impl.Vault, want int64) {
	t.Helper()
	askCode(t, what, impl.VaultFault(v), want)
	if words := wantVaultFault(v); words != want {
		t.Errorf("%s: the test wants code %d, the words code %d", what, want, words)
	}
}

func TestANewVault(t *testing.T) {
	fresh := impl.NewVault()
	askVault(t, "a new vault", fresh, impl.VaultResult{Vault: impl.Vault{Up: true, Store: store(1)}})
	askVaultFault(t, "a new vault", fresh.Vault, impl.OK)
	askVaultFault(t, "one that is Up, with lists of nothing", impl.Vault{Up: true, Sure: []byte{}, Loose: []byte{}, Store: impl.Store{Validity: 1, Boxes: []impl.Box{}}}, impl.OK)
	askVaultFault(t, "one that is Up, with nothing and Validity 0", impl.Vault{Up: true}, impl.ErrRange)
	askVaultFault(t, "one that is Up, with nothing and Validity 2", impl.Vault{Up: true, Store: store(2)}, impl.ErrState)
	askVaultFault(t, "one that is Up, with nothing but a mailbox", impl.Vault{Up: true, Store: store(2, box("in", 1, 1))}, impl.ErrState)
}

func TestVaultsOfOpsThatCanBeDone(t *testing.T) {
	for _, list := range [][]impl.Op{deeds(), countless(60), bulk(6000), bulk(8000)} {
		for cut := range len(list) + 1 {
			askVaultFault(t, fmt.Sprint(cut, " of them Sure, all others Loose"), upVault(list[:cut], list[cut:]), impl.OK)
			if len(list) <= 30 {
				askVaultFault(t, fmt.Sprint(cut, " of them Sure, no others"), upVault(list[:cut], nil), impl.OK)
				askVaultFault(t, fmt.Sprint(cut, " of them Loose"), upVault(nil, list[:cut]), impl.OK)
			}
		}
	}
}

func TestHowManyBytesAVaultHas(t *testing.T) {
	for _, size := range []int{5999, 6000, 6001, 7999, 8000, 8001, 8002, 8415} {
		list := bulk(size)
		want := int64(impl.OK)
		if size > 8000 {
			want = impl.ErrMany
		}
		for _, cut := range []int{0, 1, len(list) / 2, len(list) - 1, len(list)} {
			askVaultFault(t, fmt.Sprint(size, " bytes, ", cut, " ops Sure"), upVault(list[:cut], list[cut:]), want)
		}
		askVaultFault(t, fmt.Sprint(size, " bytes, not Up"), downVault(string(someBytes(size))), want)
		for _, loose := range []int{1, 4000, size - 1, size} {
			v := impl.Vault{Sure: someBytes(size - loose), Loose: someBytes(loose)}
			what := fmt.Sprint(size, " bytes, of which are Loose ", loose)
			if size <= 8000 {
				askVaultFault(t, what+", not Up", v, impl.ErrForm)
				v.Up, v.Store = true, store(1)
				askVaultFault(t, what, v, impl.ErrText)
				v.Store = store(0)
				askVaultFault(t, what+", with a store that has a fault", v, impl.ErrRange)
				continue
			}
			askVaultFault(t, what+", not Up", v, impl.ErrMany)
			v.Up = true
			askVaultFault(t, what+", with a store that has a fault", v, impl.ErrMany)
		}
	}
	askVaultFault(t, "very many bytes Sure", downVault(string(someBytes(1<<20))), impl.ErrMany)
	askVaultFault(t, "very many bytes Loose", impl.Vault{Up: true, Loose: someBytes(1 << 20), Store: store(1)}, impl.ErrMany)
}

func TestVaultsThatAreNotUp(t *testing.T) {
	askVaultFault(t, "nothing", impl.Vault{}, impl.OK)
	askVaultFault(t, "lists of nothing", impl.Vault{Sure: []byte{}, Loose: []byte{}, Store: impl.Store{Boxes: []impl.Box{}}}, impl.OK)
	journals := []string{"", "\x00", "bytes that are no ops", wantPackedAll(deeds()), wantPackedAll(deeds())[1:], wantPackedAll(deeds()) + "\x00\x09", wantPackedAll(countless(61)), wantPackedAll([]impl.Op{eraseOp("in")})}
	for i, journal := range journals {
		what := fmt.Sprint("journal ", i)
		askVaultFault(t, what, downVault(journal), impl.OK)
		for _, loose := range []string{"\x00", "x", wantPackedAll(deeds()[:1]), string(someBytes(3000))} {
			v := downVault(journal)
			v.Loose = []byte(loose)
			askVaultFault(t, fmt.Sprint(what, " with Loose bytes ", len(loose)), v, impl.ErrForm)
		}
		for _, validity := range []int64{1, 2, 999, 1000, 1001, -1, math.MinInt64, math.MaxInt64} {
			v := downVault(journal)
			v.Store.Validity = validity
			askVaultFault(t, fmt.Sprint(what, " with Validity ", validity), v, impl.ErrForm)
		}
		for _, s := range slices.Concat(someStores(), faultyStores()) {
			if s.Validity != 0 {
				v := downVault(journal)
				v.Store = s
				askVaultFault(t, fmt.Sprint(what, " with a store of ", s.Validity), v, impl.ErrForm)
			}
		}
		for _, boxes := range [][]impl.Box{{{}}, {box("in", 1, 1)}, make([]impl.Box, 9)} {
			v := downVault(journal)
			v.Store.Boxes = boxes
			askVaultFault(t, fmt.Sprint(what, " with mailboxes ", len(boxes)), v, impl.ErrForm)
		}
		whole := downVault(journal)
		whole.Loose, whole.Store = []byte("x"), fullStore()
		askVaultFault(t, what+" with all that", whole, impl.ErrForm)
	}
	// All that one that is Up has, but for Up.
	down := upVault(deeds(), nil)
	down.Up = false
	askVaultFault(t, "a whole vault that is not Up", down, impl.ErrForm)
}

func TestVaultsWhoseStoreHasAFault(t *testing.T) {
	journals := []string{"", wantPackedAll(deeds()), "bytes that are no ops", wantPackedAll(deeds()) + "\x00", wantPackedAll(countless(61)), wantPackedAll([]impl.Op{eraseOp("in")})}
	for i, s := range faultyStores() {
		for k, journal := range journals {
			code := wantStoreFault(s)
			if code == impl.OK {
				t.Fatalf("store %d has no fault", i)
			}
			askVaultFault(t, fmt.Sprint("store ", i, ", Sure ", k), impl.Vault{Up: true, Sure: []byte(journal), Store: s}, code)
			askVaultFault(t, fmt.Sprint("store ", i, ", Loose ", k), impl.Vault{Up: true, Loose: []byte(journal), Store: s}, code)
		}
	}
}

func TestBytesBehindTheOpsOfAVault(t *testing.T) {
	list := deeds()
	for _, behind := range []string{"\x00", "\x00\x09", "x", "\xff\xff\xff", string(someBytes(400)), wantPackedAll(list)[1:], wantPackedAll(list[:1])[:15], string(wantPacked(makeOp("In")))} {
		for _, cut := range []int{0, 1, 7, len(list)} {
			v := upVault(list[:cut], list[cut:])
			v.Sure = append(v.Sure, behind...)
			askVaultFault(t, fmt.Sprintf("%.9q behind Sure of %d ops", behind, cut), v, impl.ErrText)
			v = upVault(list[:cut], list[cut:])
			v.Loose = append(v.Loose, behind...)
			askVaultFault(t, fmt.Sprintf("%.9q behind Loose, %d ops Sure", behind, cut), v, impl.ErrText)
			v.Sure = append(v.Sure, behind...)
			askVaultFault(t, fmt.Sprintf("%.9q behind both, %d ops Sure", behind, cut), v, impl.ErrText)
			// The store fits, or it does not: the bytes are asked first.
			v.Store = store(9)
			askVaultFault(t, fmt.Sprintf("%.9q behind both, with another store", behind), v, impl.ErrText)
		}
	}
	wrong := upVault(nil, []impl.Op{eraseOp("in")})
	wrong.Loose = append(wrong.Loose, 0)
	askVaultFault(t, "bytes behind an op that cannot be done", wrong, impl.ErrText)
	many := upVault(countless(61), nil)
	many.Sure = append(many.Sure, 0)
	askVaultFault(t, "bytes behind 61 ops", many, impl.ErrText)
}

func TestAnOpInTwoPieces(t *testing.T) {
	list := deeds()[:8]
	all, ends := []byte(wantPackedAll(list)), endsOf(list)
	whole := upVault(list, nil)
	for cut := range len(all) + 1 {
		want := int64(impl.ErrText)
		if slices.Contains(ends, cut) {
			want = impl.OK
		}
		v := whole
		v.Sure, v.Loose = all[:cut], all[cut:]
		askVaultFault(t, fmt.Sprint("a journal cut behind ", cut, " bytes"), v, want)
	}
}

func TestVaultsWhoseOpsCannotBeDone(t *testing.T) {
	list := deeds()
	for _, wrong := range []impl.Op{makeOp("in"), eraseOp("none"), addOp("none", 0, 0, ""), flagOp("none", 1, 0, 1), copyOp("in", "none"), moveOp("in", "in", 1), moveOp("none", "in"), purgeOp("none")} {
		for place := 1; place <= 9; place++ {
			turned := slices.Insert(slices.Clone(list), place, wrong)
			for _, cut := range []int{0, place, place + 1, len(turned)} {
				v := upVault(turned[:cut], turned[cut:])
				v.Store = wantApplyAll(store(1), list).Store
				askVaultFault(t, fmt.Sprint(opText(wrong), " at ", place, ", Sure up to ", cut), v, impl.ErrState)
			}
			v := upVault(turned[:place+1], nil)
			v.Store = wantApplyAll(store(1), turned[:place]).Store
			askVaultFault(t, fmt.Sprint(opText(wrong), " at ", place, " as the last one"), v, impl.ErrState)
		}
	}
	askVaultFault(t, "the order of Sure and Loose", upVault(list[1:], list[:1]), impl.ErrState)
	swapped := upVault(list, nil)
	swapped.Sure, swapped.Loose = []byte(wantPackedAll(list[3:])), []byte(wantPackedAll(list[:3]))
	askVaultFault(t, "Loose ahead of Sure", swapped, impl.ErrState)
}

func TestHowManyOpsAVaultHas(t *testing.T) {
	for _, count := range []int{58, 59, 60, 61, 62, 100, 533} {
		want := int64(impl.OK)
		if count > 60 {
			want = impl.ErrState
		}
		list := countless(count)
		v := upVault(nil, nil)
		for _, o := range list {
			v.Store = wantApply(v.Store, o).Store
		}
		for _, cut := range []int{0, 1, 30, count - 1, count} {
			v.Sure, v.Loose = []byte(wantPackedAll(list[:cut])), []byte(wantPackedAll(list[cut:]))
			askVaultFault(t, fmt.Sprint(count, " ops, ", cut, " of them Sure"), v, want)
		}
	}
}

func TestVaultsWithAnotherStoreThanTheirOpsMake(t *testing.T) {
	list := []impl.Op{makeOp("in"), makeOp("old"), addOp("in", 1, 2, "a"), addOp("in", 8, 3, "b"), addOp("old", 4, 4, "")}
	changes := map[string]func(s *impl.Store){
		"Validity":             func(s *impl.Store) { s.Validity++ },
		"the most of Validity": func(s *impl.Store) { s.Validity = 1000 },
		"a mailbox more":       func(s *impl.Store) { s.Boxes, s.Validity = append(s.Boxes, box("z", 3, 1)), 4 },
		"a mailbox less":       func(s *impl.Store) { s.Boxes = s.Boxes[:1] },
		"no mailboxes":         func(s *impl.Store) { s.Boxes = nil },
		"order of mailboxes":   func(s *impl.Store) { slices.Reverse(s.Boxes) },
		"Validities swapped":   func(s *impl.Store) { s.Boxes[0].Validity, s.Boxes[1].Validity = 2, 1 },
		"Name":                 func(s *impl.Store) { s.Boxes[0].Name = "im" },
		"Next":                 func(s *impl.Store) { s.Boxes[0].Next++ },
		"Next of the last":     func(s *impl.Store) { s.Boxes[1].Next = 1000 },
		"a message more": func(s *impl.Store) {
			s.Boxes[1].Messages, s.Boxes[1].Next = append(s.Boxes[1].Messages, messages(2)...), 3
		},
		"a message less": func(s *impl.Store) { s.Boxes[0].Messages = s.Boxes[0].Messages[1:] },
		"no messages":    func(s *impl.Store) { s.Boxes[1].Messages = nil },
		"Uid":            func(s *impl.Store) { s.Boxes[0].Messages[1].Uid, s.Boxes[0].Next = 3, 4 },
		"Flags":          func(s *impl.Store) { s.Boxes[0].Messages[1].Flags = 9 },
		"no Flags":       func(s *impl.Store) { s.Boxes[1].Messages[0].Flags = 0 },
		"Date":           func(s *impl.Store) { s.Boxes[0].Messages[0].Date = 3 },
		"a byte":         func(s *impl.Store) { s.Boxes[0].Messages[0].Data[0]++ },
		"a byte more":    func(s *impl.Store) { s.Boxes[1].Messages[0].Data = []byte{0} },
		"no Data":        func(s *impl.Store) { s.Boxes[0].Messages[0].Data = nil },
		"the one ahead":  func(s *impl.Store) { *s = wantApplyAll(store(1), list[:4]).Store },
		"the one behind": func(s *impl.Store) { *s = wantApply(*s, purgeOp("in")).Store },
		"a new one":      func(s *impl.Store) { *s = store(1) },
	}
	for what, change := range changes {
		for cut := range len(list) + 1 {
			v := upVault(list[:cut], list[cut:])
			change(&v.Store)
			askCode(t, what, impl.StoreFault(v.Store), impl.OK)
			askVaultFault(t, fmt.Sprint(what, ", Sure up to ", cut), v, impl.ErrState)
		}
	}
	// What is Loose is in the store, and where it is not there the store is another one.
	v := upVault(list[:4], list[4:])
	v.Loose = nil
	askVaultFault(t, "without what is Loose", v, impl.ErrState)
	v = upVault(list[:4], list[4:])
	v.Sure = nil
	askVaultFault(t, "without what is Sure", v, impl.ErrState)
	nothing := upVault(list, nil)
	nothing.Store.Boxes[1].Messages[0].Data = []byte{}
	askVaultFault(t, "Data of nothing", nothing, impl.OK)
	nothing.Store.Boxes[1].Messages[0].Data = nil
	askVaultFault(t, "nil", nothing, impl.OK)
}
