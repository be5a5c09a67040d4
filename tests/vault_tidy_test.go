package tests

import (
	"fmt"
	"math/rand"
	"slices"
	"testing"

	"loop.example/g00447/impl"
)

// wantTidied takes away the first op of two that tell the same, the first two first, until there are no such two.
func wantTidied(list []impl.Op) []impl.Op {
	for place := 0; place+1 < len(list); place++ {
		a, b := list[place], list[place+1]
		isAlike := a.Kind == impl.OpFlag && b.Kind == impl.OpFlag && a.Mode == impl.ModeSet && b.Mode == impl.ModeSet
		if isAlike && a.Box == b.Box && fmt.Sprint(a.Uids) == fmt.Sprint(b.Uids) {
			return wantTidied(slices.Delete(slices.Clone(list), place, place+1))
		}
	}
	return list
}

// askTidied cuts the ops at each place into Sure and Loose ones.
func askTidied(t *testing.T, what string, list, left []impl.Op) {
	t.Helper()
	if !impl.SameOps(wantTidied(list), left) {
		t.Errorf("%s: the test wants %v, the words %v", what, left, wantTidied(list))
	}
	for cut := range len(list) + 1 {
		v := upVault(list[:cut], list[cut:])
		asking := fmt.Sprint(what, ", ", cut, " of ", len(list), " ops Sure")
		askCode(t, asking, impl.VaultFault(v), impl.OK)
		got := impl.TidyVault(v)
		askVault(t, asking, got, impl.VaultResult{Vault: impl.Vault{Up: true, Sure: []byte(wantPackedAll(left)), Store: v.Store}})
		askCode(t, asking, impl.VaultFault(got.Vault), impl.OK)
		askVault(t, asking+", once more", impl.TidyVault(got.Vault), got)
		askVault(t, asking+", behind a crash", impl.RecoverVault(impl.CrashVault(got.Vault, 0).Vault), got)
		if len(got.Vault.Sure) > len(v.Sure)+len(v.Loose) {
			t.Errorf("%s: %d bytes became %d", asking, len(v.Sure)+len(v.Loose), len(got.Vault.Sure))
		}
	}
}

// twoMailboxes are the ops that make them, with messages in them, and nothing that can be tidied.
func twoMailboxes() []impl.Op {
	return []impl.Op{makeOp("in"), makeOp("old"), addOp("in", 0, 0, "a"), addOp("in", 0, 0, "b"), addOp("old", 0, 0, "c")}
}

func TestVaultsWithFewOpsAreTidied(t *testing.T) {
	askVault(t, "a new vault", impl.TidyVault(impl.NewVault().Vault), impl.NewVault())
	askTidied(t, "no op", nil, nil)
	askTidied(t, "one op", []impl.Op{makeOp("in")}, []impl.Op{makeOp("in")})
	askTidied(t, "two ops", []impl.Op{makeOp("in"), makeOp("old")}, []impl.Op{makeOp("in"), makeOp("old")})
	askTidied(t, "ops of each Kind", deeds(), deeds())
}

func TestFlagsSetAgainAreTidied(t *testing.T) {
	set := func(flags int64) impl.Op { return flagOp("in", impl.ModeSet, flags, 1, 2) }
	begin := twoMailboxes()
	with := func(list ...impl.Op) []impl.Op { return slices.Concat(begin, list) }
	askTidied(t, "one", with(set(1)), with(set(1)))
	askTidied(t, "two", with(set(1), set(2)), with(set(2)))
	askTidied(t, "two that are the same", with(set(1), set(1)), with(set(1)))
	askTidied(t, "three", with(set(1), set(2), set(4)), with(set(4)))
	askTidied(t, "four", with(set(1), set(2), set(4), set(8)), with(set(8)))
	askTidied(t, "five", with(set(1), set(2), set(4), set(8), set(0)), with(set(0)))
	askTidied(t, "of no Uids", with(flagOp("in", impl.ModeSet, 1), flagOp("in", impl.ModeSet, 2)), with(flagOp("in", impl.ModeSet, 2)))
	askTidied(t, "of Uids that are not there", with(flagOp("in", impl.ModeSet, 1, 9), flagOp("in", impl.ModeSet, 2, 9)), with(flagOp("in", impl.ModeSet, 2, 9)))
	askTidied(t, "two, and another two", with(set(1), set(2), flagOp("old", impl.ModeSet, 1, 1), flagOp("old", impl.ModeSet, 3, 1)), with(set(2), flagOp("old", impl.ModeSet, 3, 1)))
	askTidied(t, "two, one between, two", with(set(1), set(2), purgeOp("in"), set(4), set(8)), with(set(2), purgeOp("in"), set(8)))
	askTidied(t, "two ahead of others", with(set(1), set(2), addOp("in", 1, 1, "z"), purgeOp("old")), with(set(2), addOp("in", 1, 1, "z"), purgeOp("old")))
	fifty := slices.Repeat([]impl.Op{set(1), set(6)}, 25)
	askTidied(t, "fifty", with(fifty...), with(set(6)))
	// What is gone by then makes room again.
	full := upVault(with(slices.Repeat([]impl.Op{set(1)}, 55)...), nil)
	askVault(t, "the 61st op", impl.DoVault(full, purgeOp("in")), impl.VaultResult{Code: impl.ErrFull})
	askVault(t, "the 7th op", impl.DoVault(impl.TidyVault(full).Vault, purgeOp("in")), impl.VaultResult{Vault: upVault(with(set(1), purgeOp("in")), nil)})
}

func TestOpsThatAreNotAlikeStay(t *testing.T) {
	begin := twoMailboxes()
	set := flagOp("in", impl.ModeSet, 1, 1, 2)
	others := map[string]impl.Op{
		"ModeMore":           flagOp("in", impl.ModeMore, 1, 1, 2),
		"ModeLess":           flagOp("in", impl.ModeLess, 1, 1, 2),
		"another Box":        flagOp("old", impl.ModeSet, 1, 1, 2),
		"a Uid less":         flagOp("in", impl.ModeSet, 1, 1),
		"the other Uid less": flagOp("in", impl.ModeSet, 1, 2),
		"a Uid more":         flagOp("in", impl.ModeSet, 1, 1, 2, 3),
		"another Uid":        flagOp("in", impl.ModeSet, 1, 1, 3),
		"no Uids":            flagOp("in", impl.ModeSet, 1),
		"a mailbox made":     makeOp("z"),
		"a mailbox erased":   eraseOp("old"),
		"a message":          addOp("in", 1, 1, "z"),
		"a copy":             copyOp("in", "old", 1, 2),
		"a move":             moveOp("in", "old", 1, 2),
		"a purge":            purgeOp("in"),
	}
	for what, other := range others {
		for _, list := range [][]impl.Op{{set, other}, {other, set}, {set, other, set}} {
			all := slices.Concat(begin, list)
			askTidied(t, what, all, all)
		}
		askTidied(t, what+" behind two", slices.Concat(begin, []impl.Op{set, set, other, set}), slices.Concat(begin, []impl.Op{set, other, set}))
		askTidied(t, what+" ahead of two", slices.Concat(begin, []impl.Op{other, set, set}), slices.Concat(begin, []impl.Op{other, set}))
	}
	// Others that are alike each other stay, too.
	for what, other := range map[string]impl.Op{"ModeMore": others["ModeMore"], "ModeLess": others["ModeLess"], "a purge": purgeOp("in"), "a message": addOp("in", 1, 1, "z"), "a move of nothing": moveOp("in", "old"), "a copy of nothing": copyOp("in", "old", 9)} {
		all := append(slices.Clone(begin), other, other, other)
		askTidied(t, "twice "+what, all, all)
	}
}

func TestAJournalThatIsTidiedTellsTheSameInNoMoreBytes(t *testing.T) {
	shorter := 0
	for seed := range int64(60) {
		draw := rand.New(rand.NewSource(seed))
		list := twoMailboxes()
		for len(list) < 40 {
			o := flagOp([]string{"in", "in", "old"}[draw.Intn(3)], draw.Int63n(6)%3+1, draw.Int63n(16), [][]int64{{1}, {1}, {1, 2}, {2}}[draw.Intn(4)]...)
			if draw.Intn(3) > 0 {
				o.Mode = impl.ModeSet
			}
			if draw.Intn(8) == 0 {
				o = anyOp(draw)
			}
			if wantApplyAll(store(1), append(slices.Clone(list), o)).Code == impl.OK {
				list = append(list, o)
			}
		}
		left := wantTidied(list)
		if len(left) < len(list) {
			shorter++
		}
		cut := draw.Intn(len(list) + 1)
		v := upVault(list[:cut], list[cut:])
		got := impl.TidyVault(v)
		askVault(t, fmt.Sprint("seed ", seed), got, impl.VaultResult{Vault: impl.Vault{Up: true, Sure: []byte(wantPackedAll(left)), Store: v.Store}})
		askCode(t, fmt.Sprint("seed ", seed), impl.VaultFault(got.Vault), impl.OK)
	}
	if shorter < 30 {
		t.Errorf("only %d journals were made shorter", shorter)
	}
	most := bulk(8000)
	askVault(t, "8000 bytes", impl.TidyVault(upVault(most[:3], most[3:])), impl.VaultResult{Vault: upVault(most, nil)})
	askVault(t, "60 ops", impl.TidyVault(upVault(nil, countless(60))), impl.VaultResult{Vault: upVault(countless(60), nil)})
}
