package tests

import (
	"fmt"
	"math"
	"slices"
	"strings"
	"testing"

	"loop.example/g00447/impl"
)

// session has a mailbox open, and was told of these Uids of it; with no name it has nothing open.
func session(box string, validity int64, seen ...int64) impl.Session {
	return impl.Session{Box: box, Validity: validity, Seen: seen, Cmp: 1}
}

func world(v impl.Vault, list ...impl.Session) impl.World {
	return impl.World{Vault: v, Sessions: list}
}

// worldText is the same for nothing and nil.
func worldText(w impl.World) string {
	text := vaultText(w.Vault) + ", sessions"
	for _, s := range w.Sessions {
		text += fmt.Sprintf(" (%q %d %v %d)", s.Box, s.Validity, s.Seen, s.Cmp)
	}
	return text
}

func askWorld(t *testing.T, what string, got, want impl.WorldResult) {
	t.Helper()
	if got.Code != want.Code || !slices.Equal(got.Lines, want.Lines) || worldText(got.World) != worldText(want.World) {
		t.Errorf("%s:\ngot  code %d, %q, %.1500s\nwant code %d, %q, %.1500s", what, got.Code, got.Lines, worldText(got.World), want.Code, want.Lines, worldText(want.World))
	}
}

func wantSessionFault(s impl.Session) int64 {
	return firstCode(
		asked{isOut(s.Cmp, 1, 3) || isOut(s.Validity, 0, 999) || len(s.Seen) > 6 || !doRise(s.Seen), impl.ErrRange},
		asked{s.Box == "" && (s.Validity != 0 || len(s.Seen) != 0), impl.ErrForm},
		asked{s.Box != "" && (!boxNames.MatchString(s.Box) || s.Validity == 0), impl.ErrForm})
}

// wantWorldFault goes by the document's words.
func wantWorldFault(w impl.World) int64 {
	list := []asked{{isOut(int64(len(w.Sessions)), 1, 3), impl.ErrMany}}
	for _, s := range w.Sessions {
		list = append(list, asked{wantSessionFault(s) != 0, wantSessionFault(s)})
	}
	if code := wantVaultFault(w.Vault); code != impl.OK {
		return code
	}
	return firstCode(list...)
}

// askWorldFault asks what the words of the document say, and what is written out beside it.
func askWorldFault(t *testing.T, what string, w impl.World, want int64) {
	t.Helper()
	askCode(t, what, impl.WorldFault(w), want)
	if words := wantWorldFault(w); words != want {
		t.Errorf("%s: the test wants code %d, the words code %d", what, want, words)
	}
}

func TestNewWorlds(t *testing.T) {
	for sessions := int64(1); sessions <= 3; sessions++ {
		got := impl.NewWorld(sessions)
		want := world(impl.Vault{Up: true, Store: impl.Store{Validity: 1}}, slices.Repeat([]impl.Session{{Cmp: 1}}, int(sessions))...)
		askWorld(t, fmt.Sprint(sessions), got, impl.WorldResult{World: want})
		askWorldFault(t, fmt.Sprint(sessions), got.World, impl.OK)
		if len(got.World.Sessions) != int(sessions) || worldText(got.World) == worldText(impl.World{}) {
			t.Errorf("a world of %d sessions has %d", sessions, len(got.World.Sessions))
		}
	}
	for _, sessions := range []int64{math.MinInt64, math.MinInt64 + 1, -1 << 32, -3, -2, -1, 0, 4, 5, 256, 257, 1 << 32, 1<<32 + 1, math.MaxInt64 - 1, math.MaxInt64} {
		askWorld(t, fmt.Sprint(sessions), impl.NewWorld(sessions), impl.WorldResult{Code: impl.ErrRange})
	}
}

func TestHowManySessionsAWorldHas(t *testing.T) {
	wrong := impl.Session{Box: "In", Validity: -1, Cmp: 9}
	for _, v := range []impl.Vault{impl.NewVault().Vault, upVault(deeds()[:5], deeds()[5:]), {}, downVault("x")} {
		for count, want := range []int64{impl.ErrMany, impl.OK, impl.OK, impl.OK, impl.ErrMany, impl.ErrMany, impl.ErrMany} {
			askWorldFault(t, fmt.Sprint(count, " sessions"), world(v, slices.Repeat([]impl.Session{{Cmp: 1}}, count)...), want)
			askWorldFault(t, fmt.Sprint(count, " sessions with a mailbox"), world(v, slices.Repeat([]impl.Session{session("in", 1, 1, 2)}, count)...), want)
			if want == impl.ErrMany {
				// How many there are is asked ahead of each of them.
				askWorldFault(t, fmt.Sprint(count, " sessions with faults"), world(v, slices.Repeat([]impl.Session{wrong}, count)...), want)
			}
		}
		askWorldFault(t, "lists of nothing", impl.World{Vault: v, Sessions: []impl.Session{}}, impl.ErrMany)
		askWorldFault(t, "many sessions", world(v, make([]impl.Session, 1<<12)...), impl.ErrMany)
	}
	askCode(t, "nothing", impl.WorldFault(impl.World{}), impl.ErrMany)
}

func TestFaultsOfVaultsComeFirst(t *testing.T) {
	codes := map[int64]int{}
	for i, v := range append(goodVaults(), faultyVaults()...) {
		fault := wantVaultFault(v)
		codes[fault]++
		for what, list := range map[string][]impl.Session{"a session": {{Cmp: 1}}, "no session": nil, "four": make([]impl.Session, 4), "a wrong one": {{Cmp: 4}}, "a wrong form": {session("", 1)}} {
			want := fault
			if fault == impl.OK {
				want = map[string]int64{"a session": impl.OK, "no session": impl.ErrMany, "four": impl.ErrMany, "a wrong one": impl.ErrRange, "a wrong form": impl.ErrForm}[what]
			}
			askWorldFault(t, fmt.Sprint("vault ", i, ", ", what), world(v, list...), want)
		}
	}
	for _, code := range []int64{impl.OK, impl.ErrForm, impl.ErrMany, impl.ErrRange, impl.ErrText, impl.ErrState} {
		if codes[code] == 0 {
			t.Errorf("no vault has the code %d", code)
		}
	}
}

// seenLists are Uids that rise, and others.
func seenLists() [][]int64 {
	return [][]int64{
		nil, {}, {1}, {7}, {998}, {999}, {1, 2}, {1, 999}, {1, 2, 3, 4, 5, 6}, {994, 995, 996, 997, 998, 999}, {2, 3, 5, 7, 11},
		{1, 2, 3, 4, 5, 6, 7}, {2, 1}, {1, 1}, {1, 3, 2}, {0}, {0, 1}, {1, 0}, {-1}, {-1, 1}, {1000}, {1, 1000}, {math.MinInt64}, {math.MaxInt64}, {1, math.MaxInt64}, {1 << 32}, {1, 1<<32 + 2}, times(1<<12, 1), numbersFrom(1, 999),
	}
}

func TestFaultsOfSessions(t *testing.T) {
	v := upVault(deeds(), nil)
	faults := map[int64]int{}
	for _, cmp := range []int64{math.MinInt64, -1, 0, 1, 2, 3, 4, 1<<32 + 1, math.MaxInt64} {
		for _, validity := range []int64{math.MinInt64, -1, 0, 1, 2, 998, 999, 1000, 1 << 32, 1<<32 + 1, math.MaxInt64} {
			for _, seen := range seenLists() {
				for _, name := range []string{"", "a", "in", "z", "abcdefgh", "abcdefghi", "In", "in1", " ", " in", "in ", "ä", "\x00", "in\n"} {
					s := impl.Session{Box: name, Validity: validity, Seen: seen, Cmp: cmp}
					want := wantSessionFault(s)
					if got := impl.WorldFault(world(impl.Vault{}, s)); got != want {
						t.Errorf("%q %d %.40v %d: got code %d, want code %d", name, validity, seen, cmp, got, want)
					}
					faults[want]++
				}
			}
		}
	}
	if len(faults) != 3 || faults[impl.OK] < 100 || faults[impl.ErrForm] < 100 {
		t.Errorf("too few of one kind were asked: %v", faults)
	}
	for _, by := range []struct {
		what string
		s    impl.Session
		want int64
	}{
		{"nothing open", session("", 0), impl.OK}, {"a mailbox", session("in", 1), impl.OK}, {"six Uids", session("in", 999, 1, 2, 3, 4, 5, 999), impl.OK}, {"a mailbox that is nowhere", session("nowhere", 7, 9), impl.OK},
		{"seven Uids", session("in", 1, 1, 2, 3, 4, 5, 6, 7), impl.ErrRange}, {"a Uid 0", session("in", 1, 0), impl.ErrRange}, {"a Uid 1000", session("in", 1, 1000), impl.ErrRange}, {"a Uid twice", session("in", 1, 2, 2), impl.ErrRange}, {"Uids that fall", session("in", 1, 3, 2), impl.ErrRange},
		{"Validity -1", session("in", -1), impl.ErrRange}, {"Validity 0", session("in", 0), impl.ErrForm}, {"Validity 999", session("in", 999), impl.OK}, {"Validity 1000", session("in", 1000), impl.ErrRange},
		{"no Cmp", impl.Session{}, impl.ErrRange}, {"Cmp 2", impl.Session{Cmp: 2}, impl.OK}, {"Cmp 3", impl.Session{Cmp: 3}, impl.OK}, {"Cmp 4", impl.Session{Cmp: 4}, impl.ErrRange},
		{"Validity of no mailbox", session("", 1), impl.ErrForm}, {"Uids of no mailbox", session("", 0, 1), impl.ErrForm}, {"both of no mailbox", session("", 1, 1), impl.ErrForm}, {"no name", session("In", 1), impl.ErrForm}, {"no name and no Validity", session("In", 0), impl.ErrForm},
		// What is out of bounds is told ahead of what does not fit.
		{"Validity -1 of no mailbox", session("", -1), impl.ErrRange}, {"a Uid 0 of no mailbox", session("", 0, 0), impl.ErrRange}, {"no name, and seven Uids", session("In", 1, 1, 2, 3, 4, 5, 6, 7), impl.ErrRange}, {"no Validity and Cmp 0", impl.Session{Box: "in"}, impl.ErrRange},
		{"a name of many letters", session(strings.Repeat("a", 1<<16), 1), impl.ErrForm},
	} {
		askWorldFault(t, by.what, world(v, by.s), by.want)
		askWorldFault(t, by.what+", as the last one", world(v, session("", 0), session("in", 1, 1), by.s), by.want)
	}
}

func TestSessionsAreAskedOneByOne(t *testing.T) {
	good, ranged, formed := session("in", 1, 1), session("in", 1000), session("", 1)
	for _, by := range []struct {
		list []impl.Session
		want int64
	}{
		{[]impl.Session{formed, ranged}, impl.ErrForm}, {[]impl.Session{ranged, formed}, impl.ErrRange}, {[]impl.Session{good, formed, ranged}, impl.ErrForm}, {[]impl.Session{good, ranged, formed}, impl.ErrRange}, {[]impl.Session{formed, good, ranged}, impl.ErrForm},
		{[]impl.Session{good, good, formed}, impl.ErrForm}, {[]impl.Session{good, good, ranged}, impl.ErrRange}, {[]impl.Session{good, good, good}, impl.OK}, {[]impl.Session{formed, ranged, good, good}, impl.ErrMany},
	} {
		askWorldFault(t, fmt.Sprint(by.list), world(impl.NewVault().Vault, by.list...), by.want)
	}
}
