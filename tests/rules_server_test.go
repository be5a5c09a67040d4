package tests

import (
	"fmt"
	"maps"
	"slices"
	"strconv"
	"strings"
	"testing"

	"loop.example/g00447/impl"
)

// goodWorlds have no fault: some are Up, with sessions of which nothing, something and all is as they were told, and some are not.
func goodWorlds() []impl.World {
	some := []impl.Session{session("in", 1, 1, 2, 3), {Box: "old", Validity: 2, Seen: []int64{1, 998}, Cmp: 2}, {Cmp: 3}}
	list := []impl.World{newWorld(1), newWorld(3), world(impl.Vault{}, session("", 0)), world(downVault(wantPackedAll(deeds())+"x"), some...), world(downVault(wantPackedAll(deeds()[1:])), some...)}
	for _, ops := range [][]impl.Op{opsOfBox(6, 1, 2, 3, 4, 5, 6), append(opsOfBox(6, 1, 4, 6), makeOp("old"), copyOp("in", "old", 1, 4)), deeds(), countless(60)} {
		for _, cut := range []int{0, len(ops) / 2, len(ops)} {
			list = append(list, world(upVault(ops[:cut], ops[cut:]), some...))
		}
	}
	letters := []impl.Op{makeOp("in")}
	for _, data := range []string{deepMessage(), viewMessages()[3], "Subject: =?utf-8?B?w6Q=?=\n\nbody"} {
		letters = append(letters, addOp("in", 8, 5, data))
	}
	return append(list, world(upVault(letters, nil), some...), world(upVault(letters, nil), session("in", 1, 2), session("in", 1)))
}

func TestGoodWorldsHaveNoFault(t *testing.T) {
	ups := 0
	for i, w := range goodWorlds() {
		askWorldFault(t, fmt.Sprint("world ", i), w, impl.OK)
		if w.Vault.Up {
			ups++
		}
	}
	if ups < 10 || ups == len(goodWorlds()) {
		t.Errorf("%d of %d worlds are Up", ups, len(goodWorlds()))
	}
}

func worldArguments() []impl.World {
	list := append(goodWorlds(), impl.World{})
	for _, v := range faultyVaults() {
		list = append(list, world(v, session("in", 1, 1)))
	}
	for _, v := range []impl.Vault{impl.NewVault().Vault, upVault(deeds(), nil), {}} {
		list = append(list, world(v), world(v, make([]impl.Session, 4)...), world(v, make([]impl.Session, 1<<10)...))
		for _, n := range numberArguments() {
			list = append(list, world(v, impl.Session{Cmp: n}), world(v, session("in", n, 1)), world(v, session("in", 1, n)), world(v, session("", 0), session("", n)))
		}
		for _, seen := range seenLists() {
			list = append(list, world(v, session("in", 1, seen...)), world(v, session("", 0, seen...)))
		}
		for _, name := range []string{"In", "abcdefghi", "\xff", strings.Repeat("a", 1<<12)} {
			list = append(list, world(v, session(name, 1)))
		}
	}
	return list
}

// someLines are one of each kind, and some that are none.
func someLines() []string {
	list := []string{"", "a", "a wink", "* wink", "a noop ", "\x00\xff", strings.Repeat("a", 1<<16), "a " + strings.Repeat(" ", 1<<16), "a add in 0 0 " + strings.Repeat("A", 1<<12), "a copy 1:* in", "a copy 1:* old", "a move 1,3 old", "a move 9 old", "a select in", "a select old", "a erase in", "a purge", "a flag 1:* more 8"}
	for _, c := range someCmds() {
		list = append(list, impl.CmdText(c).Text)
	}
	for what := range whatWords {
		list = append(list, impl.CmdText(impl.Cmd{Tag: "a", Kind: impl.CmdFetch, Ranges: set(1, 0), What: what}).Text)
	}
	slices.Sort(list)
	return list
}

func whoArguments() []int64 {
	return []int64{-1, 0, 1, 2, 3, 1 << 32}
}

func worldAnswer(call string, r impl.WorldResult) answer {
	rest := fmt.Sprintf("%q %s", r.Lines, worldText(r.World))
	if rest == fmt.Sprintf("%q %s", []string(nil), worldText(impl.World{})) {
		rest = ""
	}
	return answer{call, r.Code, rest}
}

// callsOfWorlds are all calls that give a world, with all that is given beside it.
func callsOfWorlds() map[string]func(w impl.World) impl.WorldResult {
	calls := map[string]func(w impl.World) impl.WorldResult{"RecoverWorld": impl.RecoverWorld}
	for _, who := range whoArguments() {
		of := strconv.FormatInt(who, 10)
		calls["SyncSession "+of] = func(w impl.World) impl.WorldResult { return impl.SyncSession(w, who) }
		for _, line := range someLines() {
			calls[fmt.Sprintf("HandleLine %s %.60q", of, line)] = func(w impl.World) impl.WorldResult { return impl.HandleLine(w, who, line) }
			if who < 0 || who > 2 {
				break
			}
		}
	}
	for _, kept := range keptArguments() {
		calls["CrashWorld "+strconv.FormatInt(kept, 10)] = func(w impl.World) impl.WorldResult { return impl.CrashWorld(w, kept) }
	}
	return calls
}

func serverAnswers() []answer {
	var list []answer
	for _, n := range append(numberArguments(), 2, 3, 4) {
		list = append(list, worldAnswer(fmt.Sprint("NewWorld ", n), impl.NewWorld(n)))
	}
	calls := callsOfWorlds()
	names := slices.Sorted(maps.Keys(calls))
	for i, w := range worldArguments() {
		at := " of " + strconv.Itoa(i)
		list = append(list, answer{"WorldFault" + at, impl.WorldFault(w), ""})
		for _, name := range names {
			list = append(list, worldAnswer(name+at, calls[name](w)))
		}
	}
	for i, data := range messageArguments() {
		for k, c := range cmdArguments() {
			if c.Kind == impl.CmdFetch || i < 9 {
				list = append(list, textAnswer(fmt.Sprint("FetchText ", i, " ", k), impl.FetchText(data, c)))
			}
		}
	}
	for _, count := range append(numberArguments(), 7, 999, 1000) {
		for i, lines := range heardLines() {
			list = append(list, intAnswer(fmt.Sprint("MirrorCount ", count, " ", i), impl.MirrorCount(count, lines)))
		}
	}
	return list
}

func heardLines() [][]string {
	return [][]string{nil, {}, {""}, {"* exists 3"}, {"* exists 007", "* gone"}, {"* gone 1", "* gone 1", "* exists 2", "a ok"}, {"* closed"}, {"* closed x"}, slices.Repeat([]string{"* gone 1"}, 1<<10), {strings.Repeat("* exists 3", 1<<12)}}
}

// roomyWorld is the same world in new memory, with something of the caller's behind its lists.
func roomyWorld(w impl.World) impl.World {
	fresh := impl.World{Vault: roomyVault(w.Vault)}
	for _, s := range w.Sessions {
		s.Seen = roomyNumbers(s.Seen)
		fresh.Sessions = append(fresh.Sessions, s)
	}
	fresh.Sessions = append(fresh.Sessions, session("in", 1, 1), session("behind", 5))[:len(w.Sessions)]
	return fresh
}

// wholeWorld tells all of a world, with what is behind its lists.
func wholeWorld(w impl.World) string {
	text := wholeVault(w.Vault) + fmt.Sprint(len(w.Sessions))
	for _, s := range w.Sessions[:cap(w.Sessions)] {
		text += fmt.Sprintf("%q %d %d %v %d", s.Box, s.Validity, len(s.Seen), s.Seen[:cap(s.Seen)], s.Cmp)
	}
	return text
}

func TestWorldsStayAsTheyWere(t *testing.T) {
	calls := callsOfWorlds()
	for i, w := range worldArguments() {
		given := roomyWorld(w)
		before := wholeWorld(given)
		impl.WorldFault(given)
		for _, call := range calls {
			call(given)
		}
		if wholeWorld(given) != before {
			t.Errorf("world %d was changed", i)
		}
	}
}

func TestAnswersOfWorldsHangOnWhatIsGivenNotOnItsRoom(t *testing.T) {
	calls := callsOfWorlds()
	for i, w := range worldArguments() {
		given := roomyWorld(w)
		askCode(t, fmt.Sprint("world ", i), impl.WorldFault(given), impl.WorldFault(w))
		for what, call := range calls {
			askWorld(t, fmt.Sprint(what, " of world ", i), call(given), call(w))
		}
	}
	// What is behind a line that is cut out of a longer one is not its own.
	w := goodWorlds()[8]
	for _, line := range someLines() {
		for n := range min(len(line), 30) {
			askWorld(t, line[:n], impl.HandleLine(w, 0, line[:n]), impl.HandleLine(w, 0, string([]byte(line[:n]))))
		}
	}
}

// emptyAndBare are the same world twice: what is nothing is an empty list in the first one, and nil in the second one.
func emptyAndBare(w impl.World) (empty, bare impl.World) {
	empty, bare = clonedWorld(w), clonedWorld(w)
	empty.Vault.Sure, empty.Vault.Loose = append([]byte{}, w.Vault.Sure...), append([]byte{}, w.Vault.Loose...)
	empty.Vault.Store.Boxes = append([]impl.Box{}, w.Vault.Store.Boxes...)
	for at := range w.Sessions {
		empty.Sessions[at].Seen = append([]int64{}, w.Sessions[at].Seen...)
		if len(w.Sessions[at].Seen) == 0 {
			bare.Sessions[at].Seen = nil
		}
	}
	return empty, bare
}

func TestNothingAndAnEmptyListAreTheSameWorld(t *testing.T) {
	calls := callsOfWorlds()
	for i, w := range goodWorlds() {
		empty, bare := emptyAndBare(w)
		for what, call := range calls {
			askWorld(t, fmt.Sprint(what, " of world ", i), call(empty), call(bare))
		}
	}
}

func spansOfWorld(what string, w impl.World) []span {
	list := append(spansOfVault(what, w.Vault), spanOf(what+" Sessions", w.Sessions))
	for i, s := range w.Sessions {
		list = append(list, spanOf(fmt.Sprint(what, " Seen of ", i), s.Seen))
	}
	return list
}

func TestListsInAnswersOfWorldsAreNewMemory(t *testing.T) {
	calls := callsOfWorlds()
	told := map[int64]int{}
	for i, w := range goodWorlds() {
		given := roomyWorld(w)
		for what, call := range calls {
			first, second := call(given), call(given)
			told[first.Code]++
			list := slices.Concat(spansOfWorld("given", given), spansOfWorld("first", first.World), spansOfWorld("second", second.World))
			list = append(list, spanOf("Lines of the first", first.Lines), spanOf("Lines of the second", second.Lines))
			askApart(t, fmt.Sprint(what, " of world ", i), list)
		}
	}
	for n := int64(1); n <= 3; n++ {
		a, b := impl.NewWorld(n).World, impl.NewWorld(n).World
		askApart(t, "NewWorld", append(spansOfWorld("first", a), spansOfWorld("second", b)...))
	}
	if told[impl.OK] < 500 {
		t.Errorf("only %d calls had an answer", told[impl.OK])
	}
}

// wipeWorld clears all lists of a world, and the room behind them.
func wipeWorld(w impl.World) {
	wipeVault(w.Vault)
	for _, s := range w.Sessions {
		clear(s.Seen[:cap(s.Seen)])
	}
	clear(w.Sessions[:cap(w.Sessions)])
}

func TestAnswersOfWorldsStayWhateverBecomesOfWhatWasGiven(t *testing.T) {
	calls := callsOfWorlds()
	for i, w := range goodWorlds() {
		given := roomyWorld(w)
		before := wholeWorld(given)
		want, got := map[string]answer{}, map[string]impl.WorldResult{}
		for what, call := range calls {
			got[what] = call(given)
			want[what] = worldAnswer(what, got[what])
			other := call(given)
			wipeWorld(other.World)
			clear(other.Lines[:cap(other.Lines)])
		}
		if wholeWorld(given) != before {
			t.Errorf("an answer shares memory with world %d", i)
		}
		wipeWorld(given)
		for what, r := range got {
			askSame(t, worldAnswer(what, r), want[what])
		}
	}
}

func TestWhatIsFetchedFromAndCountedStaysAsItWas(t *testing.T) {
	for i, data := range messageArguments() {
		room := append(slices.Clone(data), "behind"...)
		before, given := string(room), room[:len(data)]
		for _, c := range someCmds() {
			for what := int64(1); what <= 7; what++ {
				if c.Kind == impl.CmdFetch {
					c = fetchCmd(what)
				}
				asked := roomyCmd(c)
				whole := wholeCmdRoom(asked)
				askSame(t, textAnswer("fetched", impl.FetchText(given, asked)), textAnswer("fetched", impl.FetchText(data, tightCmd(c))))
				if wholeCmdRoom(asked) != whole {
					t.Errorf("a command was changed: %v", c)
				}
			}
		}
		if string(room) != before {
			t.Errorf("message %d was changed", i)
		}
	}
	for i, lines := range heardLines() {
		room := append(slices.Clone(lines), "* exists 7", "* closed")
		before, given := strings.Join(room, "|"), room[:len(lines)]
		askInt(t, fmt.Sprint("lines ", i), impl.MirrorCount(9, given), impl.OK, impl.MirrorCount(9, slices.Clip(slices.Clone(lines))).Value)
		if strings.Join(room, "|") != before {
			t.Errorf("lines %d were changed", i)
		}
	}
}
