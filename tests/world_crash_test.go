package tests

import (
	"fmt"
	"math"
	"math/rand"
	"slices"
	"strings"
	"testing"

	"loop.example/g00447/impl"
)

func wantCrash(w impl.World, kept int64) impl.WorldResult {
	fault := wantWorldFault(w)
	code := firstCode(asked{fault != 0, fault}, asked{!w.Vault.Up, impl.ErrState}, asked{isOut(kept, 0, int64(len(w.Vault.Loose))), impl.ErrRange})
	if code != impl.OK {
		return impl.WorldResult{Code: code}
	}
	left := downVault(string(w.Vault.Sure) + string(w.Vault.Loose[:kept]))
	return impl.WorldResult{World: world(left, slices.Repeat([]impl.Session{{Cmp: 1}}, len(w.Sessions))...)}
}

func wantRecovered(w impl.World) impl.WorldResult {
	fault := wantWorldFault(w)
	if code := firstCode(asked{fault != 0, fault}, asked{w.Vault.Up, impl.ErrState}); code != impl.OK {
		return impl.WorldResult{Code: code}
	}
	back := wantRecover(w.Vault.Sure)
	if back.Code != impl.OK {
		return impl.WorldResult{Code: back.Code}
	}
	return impl.WorldResult{World: world(back.Vault, w.Sessions...)}
}

// askFalls crashes a world, and recovers it.
func askFalls(t *testing.T, what string, w impl.World, kept int64) impl.World {
	t.Helper()
	crashed := impl.CrashWorld(w, kept)
	askWorld(t, what+", crashed", crashed, wantCrash(w, kept))
	back := impl.RecoverWorld(crashed.World)
	askWorld(t, what+", recovered", back, wantRecovered(crashed.World))
	if crashed.Code == impl.OK && back.Code == impl.OK {
		askCode(t, what+", crashed", impl.WorldFault(crashed.World), impl.OK)
		askCode(t, what+", recovered", impl.WorldFault(back.World), impl.OK)
	}
	return back.World
}

// busySessions have each something else open.
func busySessions() []impl.Session {
	return []impl.Session{{Box: "in", Validity: 1, Seen: []int64{1, 2}, Cmp: 3}, {Cmp: 2}, {Box: "old", Validity: 2, Seen: []int64{1}, Cmp: 1}}
}

func TestCrashesOfWorlds(t *testing.T) {
	for _, count := range []int{1, 2, 3} {
		list := busySessions()[:count]
		for _, cut := range []int{0, 3, len(deeds())} {
			w := world(upVault(deeds()[:cut], deeds()[cut:]), list...)
			size := int64(len(w.Vault.Loose))
			for _, kept := range []int64{math.MinInt64, math.MinInt64 + size, -size, -1, 0, 1, size / 2, size - 1, size, size + 1, size + 8000, 1 << 32, 1<<32 + size, math.MaxInt64} {
				got := impl.CrashWorld(w, kept)
				askWorld(t, fmt.Sprint(cut, " ops Sure, kept ", kept), got, wantCrash(w, kept))
				if isOut(kept, 0, size) {
					askCode(t, fmt.Sprint("kept ", kept), got.Code, impl.ErrRange)
				} else if got.Code != impl.OK || got.World.Vault.Up || len(got.World.Sessions) != count {
					t.Errorf("kept %d: got code %d, %s", kept, got.Code, worldText(got.World))
				}
			}
		}
	}
	askWorld(t, "a new world", impl.CrashWorld(newWorld(2), 0), impl.WorldResult{World: world(impl.Vault{}, session("", 0), session("", 0))})
	askWorld(t, "a new world, one byte", impl.CrashWorld(newWorld(2), 1), impl.WorldResult{Code: impl.ErrRange})
	askWorld(t, "all sessions alike", impl.CrashWorld(world(upVault(deeds(), nil), busySessions()...), 0), impl.WorldResult{World: world(downVault(wantPackedAll(deeds())), session("", 0), session("", 0), session("", 0))})
}

func TestRecoveriesOfWorlds(t *testing.T) {
	list := busySessions()
	for _, behind := range []string{"", "\x00", "x", wantPackedAll(deeds()[:2])[:15]} {
		for count := range len(deeds()) + 1 {
			w := world(downVault(wantPackedAll(deeds()[:count])+behind), list...)
			// Who looks into what stays as it is.
			askWorld(t, fmt.Sprint(count, " ops"), impl.RecoverWorld(w), impl.WorldResult{World: world(upVault(deeds()[:count], nil), list...)})
			askWorld(t, fmt.Sprint(count, " ops"), impl.RecoverWorld(w), wantRecovered(w))
		}
	}
	askWorld(t, "nothing", impl.RecoverWorld(world(impl.Vault{}, session("", 0))), impl.WorldResult{World: newWorld(1)})
	askWorld(t, "ops that cannot be done", impl.RecoverWorld(world(downVault(wantPackedAll([]impl.Op{eraseOp("a")})), list...)), impl.WorldResult{Code: impl.ErrNone})
	askWorld(t, "an op twice", impl.RecoverWorld(world(downVault(wantPackedAll([]impl.Op{makeOp("a"), makeOp("a")})), list...)), impl.WorldResult{Code: impl.ErrTaken})
	askWorld(t, "61 ops", impl.RecoverWorld(world(downVault(wantPackedAll(countless(61))), list...)), impl.WorldResult{Code: impl.ErrMany})
}

func TestWorldsThatDoNotFall(t *testing.T) {
	up, down := upVault(deeds(), nil), downVault(wantPackedAll(deeds()))
	in := session("in", 1, 1)
	for _, by := range []struct {
		what             string
		w                impl.World
		kept             int64
		crashed, recover int64
	}{
		{"up", world(up, in), 0, impl.OK, impl.ErrState}, {"down", world(down, in), 0, impl.ErrState, impl.OK}, {"down, kept out of range", world(down, in), 1, impl.ErrState, impl.OK}, {"down, kept below", world(down, in), -1, impl.ErrState, impl.OK}, {"up, kept out of range", world(up, in), 1, impl.ErrRange, impl.ErrState},
		{"no sessions", world(up), 0, impl.ErrMany, impl.ErrMany}, {"down, no sessions", world(down), 0, impl.ErrMany, impl.ErrMany}, {"four", world(up, in, in, in, in), 0, impl.ErrMany, impl.ErrMany}, {"nothing", impl.World{}, 0, impl.ErrMany, impl.ErrMany},
		{"a session with a fault", world(up, session("", 1)), 9, impl.ErrForm, impl.ErrForm}, {"down, a session with a fault", world(down, in, session("in", -1)), 9, impl.ErrRange, impl.ErrRange},
		{"a vault with a fault", world(impl.Vault{Up: true, Store: store(2)}, in), 9, impl.ErrState, impl.ErrState}, {"a vault that is down with a fault", world(impl.Vault{Loose: []byte{1}}, in), 0, impl.ErrForm, impl.ErrForm}, {"too many bytes", world(downVault(string(someBytes(8001))), in), 0, impl.ErrMany, impl.ErrMany},
	} {
		crashed, back := impl.CrashWorld(by.w, by.kept), impl.RecoverWorld(by.w)
		askCode(t, by.what+", crashed", crashed.Code, by.crashed)
		askCode(t, by.what+", recovered", back.Code, by.recover)
		askWorld(t, by.what+", crashed", crashed, wantCrash(by.w, by.kept))
		askWorld(t, by.what+", recovered", back, wantRecovered(by.w))
	}
}

func TestAWorldIsCrashedAtEveryPlaceAndRecovered(t *testing.T) {
	for _, cut := range []int{0, 5, len(deeds()) - 1} {
		w := world(upVault(deeds()[:cut], deeds()[cut:]), busySessions()...)
		ends := endsOf(deeds()[cut:])
		for kept := range len(w.Vault.Loose) + 1 {
			whole, _ := slices.BinarySearch(ends, kept+1)
			back := askFalls(t, fmt.Sprint("kept ", kept), w, int64(kept))
			if want := upVault(deeds()[:cut+whole-1], nil); vaultText(back.Vault) != vaultText(want) {
				t.Errorf("kept %d: got %s, want %s", kept, vaultText(back.Vault), vaultText(want))
			}
		}
	}
	// All that a line has done is Sure: there is but one place at which it can crash.
	w := newWorld(2)
	for _, line := range []string{"a make in", "a select in", "a add in 0 5 SGk=", "a add in 8 6 SG8=", "a copy 1 in", "a flag 2 more 1", "a make old", "a move 1 old", "a purge", "a erase in", "a noop"} {
		w = impl.HandleLine(w, 0, line).World
		askWorld(t, line, impl.CrashWorld(w, 1), impl.WorldResult{Code: impl.ErrRange})
		back := askFalls(t, line, w, 0)
		askBool(t, line, impl.SameStores(back.Vault.Store, w.Vault.Store), true)
		askWorld(t, line, impl.WorldResult{World: back}, impl.WorldResult{World: world(w.Vault, session("", 0), session("", 0))})
	}
}

// anyLine is mostly a command that may go in a world of three mailboxes.
func anyLine(draw *rand.Rand) string {
	one := func(words ...string) string { return words[draw.Intn(len(words))] }
	name := one("in", "in", "old", "z", "none")
	list := one("1", "1:*", "*", "2", "1:2", "2:3", "3,1", "4:9", "9:*", "1,3,5", "*:2")
	what := one("flags", "size", "body 0", "body 1", "bytes 0", "text 0", "text 1.2", "preview", "subject")
	terms := one("all", "flag seen", "not flag deleted", "or flag seen uid *", "since 5", "larger 6", "subject a", "body b", "not all", "and before 7 larger 1")
	data := one("Cg==", "Cmhp", "U3ViamVjdDogQgoKeA==", "U3ViamVjdDogYQoKb25l", "YQ==")
	flags, date := draw.Intn(16), draw.Intn(10)
	line := one(
		"noop", "noop", "make "+name, "erase "+name, "select "+name, "select "+name, "select in", "close", "compare "+one("i;octet", "i;ascii-casemap", "i;unicode-casemap"), fmt.Sprintf("add %s %d %d %s", name, flags, date, data), fmt.Sprintf("add in %d %d %s", flags, date, data), fmt.Sprintf("add old %d %d %s", flags, date, data),
		fmt.Sprintf("flag %s %s %d", list, one("set", "more", "less"), flags), "copy "+list+" "+name, "move "+list+" "+name, "move "+list+" "+one("in", "old"), "purge", "purge", "fetch "+list+" "+what, "fetch "+list+" "+what, "search "+terms, "sort "+one("date", "size", "subject", "arrival")+" "+one("up", "down")+" "+terms, "wink", "flag 0 set 0")
	return one("a", "b", "z9", "a1b2", "7", "no", "ok", "0", "A") + " " + line
}

// walk has some say lines, and now and then a fall or a look at what is told, each of them asked by the words of the document.
func walk(t *testing.T, draw *rand.Rand, steps int, ends map[string]int) {
	t.Helper()
	w := newWorld(3)
	for _, line := range []string{"a make in", "a make old", "a add in 0 5 Cg==", "a select in"} {
		w = askLine(t, "at first", w, 0, line).World
	}
	counts := []int64{1, 0, 0}
	for range steps {
		who := draw.Int63n(3)
		switch draw.Intn(25) {
		case 0:
			back := askFalls(t, "a fall", w, 0)
			askBool(t, "what was done is there", impl.SameStores(back.Vault.Store, w.Vault.Store), true)
			w, counts = back, []int64{0, 0, 0}
		case 1, 2:
			got := askSync(t, "a look", w, who)
			w, counts[who] = got.World, impl.MirrorCount(counts[who], got.Lines).Value
		default:
			line := anyLine(draw)
			got := askLine(t, "a line", w, who, line)
			last := got.Lines[len(got.Lines)-1]
			word, end := strings.Split(line, " ")[1], last[strings.Index(last, " ")+1:]
			ends[word+" "+strings.Split(end, " ")[0]]++
			w, counts[who] = got.World, impl.MirrorCount(counts[who], got.Lines).Value
			askBool(t, line, impl.SameStores(impl.RecoverWorld(impl.CrashWorld(w, 0).World).World.Vault.Store, w.Vault.Store), true)
		}
		for who, s := range w.Sessions {
			if counts[who] != int64(len(s.Seen)) {
				t.Errorf("session %d counted %d, was told of %v", who, counts[who], s.Seen)
			}
		}
		if t.Failed() {
			return
		}
	}
}

func TestWhateverIsSaidOneCountsWhatThereIsAndWhatWasDoneIsThere(t *testing.T) {
	ends := map[string]int{}
	for seed := range int64(120) {
		walk(t, rand.New(rand.NewSource(seed)), 70, ends)
	}
	for _, word := range []string{"noop", "make", "erase", "select", "close", "compare", "add", "flag", "copy", "move", "purge", "fetch", "search", "sort"} {
		if ends[word+" ok"] < 5 {
			t.Errorf("%s went no more than %d times", word, ends[word+" ok"])
		}
	}
	for _, word := range []string{"make", "erase", "select", "add", "flag", "copy", "move", "purge", "fetch", "search", "sort"} {
		if ends[word+" no"] < 5 {
			t.Errorf("%s failed no more than %d times", word, ends[word+" no"])
		}
	}
}
