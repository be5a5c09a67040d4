package tests

import (
	"fmt"
	"math"
	"slices"
	"testing"

	"loop.example/g00447/impl"
)

// clonedWorld is the same world in new memory.
func clonedWorld(w impl.World) impl.World {
	fresh := impl.World{Vault: impl.Vault{Up: w.Vault.Up, Sure: slices.Clone(w.Vault.Sure), Loose: slices.Clone(w.Vault.Loose), Store: cloned(w.Vault.Store)}}
	for _, s := range w.Sessions {
		s.Seen = slices.Clone(s.Seen)
		fresh.Sessions = append(fresh.Sessions, s)
	}
	return fresh
}

// openBox is the mailbox of a session, or nil.
func openBox(w impl.World, s impl.Session) *impl.Box {
	for i, b := range w.Vault.Store.Boxes {
		if b.Name == s.Box && b.Validity == s.Validity {
			return &w.Vault.Store.Boxes[i]
		}
	}
	return nil
}

// wantToldTo goes by the document's words, with lists alone. It turns the world.
func wantToldTo(w impl.World, who int64) (lines []string) {
	s := &w.Sessions[who]
	b := openBox(w, *s)
	if b == nil {
		if s.Box != "" {
			lines = []string{"* closed"}
		}
		*s = impl.Session{Cmp: s.Cmp}
		return lines
	}
	there := uidsOf(*b)
	for number := len(s.Seen); number >= 1; number-- {
		if !slices.Contains(there, s.Seen[number-1]) {
			lines = append(lines, fmt.Sprintf("* gone %d", number))
			s.Seen = slices.Delete(s.Seen, number-1, number)
		}
	}
	if len(there) > len(s.Seen) {
		lines = append(lines, fmt.Sprintf("* exists %d", len(there)))
		s.Seen = there
	}
	return lines
}

// wantTurnedAway is the code of what is not let in, or 0.
func wantTurnedAway(w impl.World, who int64) int64 {
	fault := wantWorldFault(w)
	return firstCode(asked{fault != 0, fault}, asked{!w.Vault.Up, impl.ErrState}, asked{isOut(who, 0, int64(len(w.Sessions))-1), impl.ErrRange})
}

func wantSync(w impl.World, who int64) impl.WorldResult {
	if code := wantTurnedAway(w, who); code != impl.OK {
		return impl.WorldResult{Code: code}
	}
	own := clonedWorld(w)
	return impl.WorldResult{Lines: wantToldTo(own, who), World: own}
}

// askMirror asks that who counts what it is told has as many messages as there are in what it looks into.
func askMirror(t *testing.T, what string, before impl.Session, got impl.WorldResult, who int64) {
	t.Helper()
	after := got.World.Sessions[who]
	want := 0
	if b := openBox(got.World, after); b != nil {
		want = len(b.Messages)
	}
	askInt(t, what+", counted", impl.MirrorCount(int64(len(before.Seen)), got.Lines), impl.OK, int64(want))
	if len(after.Seen) != want {
		t.Errorf("%s: was told of %v, there are %d", what, after.Seen, want)
	}
}

// askSync asks what is told, that nobody else is turned, and that nothing is told twice.
func askSync(t *testing.T, what string, w impl.World, who int64) impl.WorldResult {
	t.Helper()
	got := impl.SyncSession(w, who)
	askWorld(t, what, got, wantSync(w, who))
	if got.Code != impl.OK {
		return got
	}
	askCode(t, what, impl.WorldFault(got.World), impl.OK)
	askMirror(t, what, w.Sessions[who], got, who)
	askWorld(t, what+", once more", impl.SyncSession(got.World, who), impl.WorldResult{World: got.World})
	for other, s := range got.World.Sessions {
		if int64(other) != who && fmt.Sprint(s) != fmt.Sprint(w.Sessions[other]) {
			t.Errorf("%s: session %d is %v, was %v", what, other, s, w.Sessions[other])
		}
	}
	if vaultText(got.World.Vault) != vaultText(w.Vault) {
		t.Errorf("%s: the vault was turned", what)
	}
	return got
}

// opsOfBox make a mailbox "in" of Validity 1, and put messages into it of which those with these Uids are left.
func opsOfBox(most int64, left ...int64) []impl.Op {
	list := []impl.Op{makeOp("in")}
	for uid := int64(1); uid <= most; uid++ {
		if slices.Contains(left, uid) {
			list = append(list, addOp("in", uid%8, uid, fmt.Sprint("\n", uid)))
		} else {
			list = append(list, addOp("in", 8, 0, ""), purgeOp("in"))
		}
	}
	return list
}

func TestWhatOneIsToldByHand(t *testing.T) {
	for _, by := range []struct {
		what  string
		seen  []int64
		there []int64
		lines []string
	}{
		{"nothing, of nothing", nil, nil, nil},
		{"nothing, of one", []int64{1}, []int64{1}, nil},
		{"nothing, of six", []int64{1, 2, 3, 4, 5, 6}, []int64{1, 2, 3, 4, 5, 6}, nil},
		{"the only one gone", []int64{2}, nil, []string{"* gone 1"}},
		{"the first one gone", []int64{1, 2, 3}, []int64{2, 3}, []string{"* gone 1"}},
		{"one between gone", []int64{1, 2, 3}, []int64{1, 3}, []string{"* gone 2"}},
		{"the last one gone", []int64{1, 2, 3}, []int64{1, 2}, []string{"* gone 3"}},
		{"several gone", []int64{1, 2, 3, 4, 5}, []int64{2, 4}, []string{"* gone 5", "* gone 3", "* gone 1"}},
		{"two side by side gone", []int64{1, 2, 3, 4}, []int64{1, 4}, []string{"* gone 3", "* gone 2"}},
		{"all gone", []int64{1, 2, 3, 4, 5, 6}, nil, []string{"* gone 6", "* gone 5", "* gone 4", "* gone 3", "* gone 2", "* gone 1"}},
		{"one new, the first", nil, []int64{5}, []string{"* exists 1"}},
		{"one new", []int64{1, 2}, []int64{1, 2, 3}, []string{"* exists 3"}},
		{"several new", []int64{1}, []int64{1, 2, 4, 6}, []string{"* exists 4"}},
		{"all new", nil, []int64{1, 2, 3, 4, 5, 6}, []string{"* exists 6"}},
		{"new ones ahead of what is seen", []int64{4}, []int64{1, 2, 4}, []string{"* exists 3"}},
		{"one gone, one new", []int64{1, 2}, []int64{2, 3}, []string{"* gone 1", "* exists 2"}},
		{"some gone, some new", []int64{1, 2, 3}, []int64{2, 5, 6}, []string{"* gone 3", "* gone 1", "* exists 3"}},
		{"all gone, all new", []int64{1, 2}, []int64{3, 4}, []string{"* gone 2", "* gone 1", "* exists 2"}},
		{"more gone than new", []int64{1, 2, 3, 4}, []int64{5}, []string{"* gone 4", "* gone 3", "* gone 2", "* gone 1", "* exists 1"}},
		{"Uids that never were", []int64{1, 998, 999}, []int64{1}, []string{"* gone 3", "* gone 2"}},
	} {
		w := world(upVault(opsOfBox(6, by.there...), nil), session("old", 7, 9), session("in", 1, by.seen...), session("in", 1))
		got := askSync(t, by.what, w, 1)
		if !slices.Equal(got.Lines, by.lines) || !slices.Equal(got.World.Sessions[1].Seen, by.there) {
			t.Errorf("%s: got %q and Seen %v, want %q", by.what, got.Lines, got.World.Sessions[1].Seen, by.lines)
		}
	}
}

// subsets are all lists of some of these numbers, each rising.
func subsets(numbers []int64) [][]int64 {
	list := [][]int64{nil}
	for _, n := range numbers {
		for _, one := range slices.Clone(list) {
			list = append(list, append(slices.Clone(one), n))
		}
	}
	return list
}

func TestWhatOneIsToldOfAnyMailbox(t *testing.T) {
	for _, there := range subsets(numbersFrom(1, 5)) {
		v := upVault(opsOfBox(5, there...), nil)
		for _, seen := range subsets([]int64{1, 2, 3, 4, 5, 77}) {
			askSync(t, fmt.Sprint(seen, " of ", there), world(v, session("in", 1, seen...)), 0)
		}
	}
}

func TestAMailboxThatIsNoMore(t *testing.T) {
	other := impl.Session{Box: "old", Validity: 2, Seen: []int64{1}, Cmp: 3}
	again := append(opsOfBox(3, 1, 2, 3), makeOp("old"), eraseOp("in"), makeOp("in"), addOp("in", 0, 0, "anew"))
	for _, by := range []struct {
		what  string
		s     impl.Session
		lines []string
	}{
		{"it was made anew", impl.Session{Box: "in", Validity: 1, Seen: []int64{1, 2, 3}, Cmp: 2}, []string{"* closed"}},
		{"it was made anew, nothing was seen", session("in", 1), []string{"* closed"}},
		{"it was erased", session("gone", 1, 1), []string{"* closed"}},
		{"another one has its Validity", session("old", 3, 1), []string{"* closed"}},
		{"a Validity that comes yet", session("in", 4, 1), []string{"* closed"}},
		{"the greatest Validity", session("in", 999, 999), []string{"* closed"}},
		{"nothing open", session("", 0), nil},
	} {
		w := world(upVault(again, nil), other, by.s, session("in", 3))
		got := askSync(t, by.what, w, 1)
		if !slices.Equal(got.Lines, by.lines) {
			t.Errorf("%s: got %q, want %q", by.what, got.Lines, by.lines)
		}
		askWorld(t, by.what, got, impl.WorldResult{Lines: by.lines, World: world(w.Vault, other, impl.Session{Cmp: by.s.Cmp}, w.Sessions[2])})
	}
	w := world(upVault(again, nil), session("in", 3), session("in", 3, 1))
	askWorld(t, "the one made anew", askSync(t, "the one made anew", w, 0), impl.WorldResult{Lines: []string{"* exists 1"}, World: world(w.Vault, session("in", 3, 1), session("in", 3, 1))})
	askWorld(t, "the one made anew, seen", askSync(t, "the one made anew, seen", w, 1), impl.WorldResult{World: w})
}

func TestWhoIsNotLetIn(t *testing.T) {
	up, down := upVault(opsOfBox(3, 1, 3), nil), downVault(wantPackedAll(opsOfBox(3, 1, 3)))
	faulty := impl.Vault{Up: true}
	in := session("in", 1, 1, 2)
	for _, by := range []struct {
		what string
		w    impl.World
		who  int64
		want int64
	}{
		{"the first one", world(up, in, in, in), 0, impl.OK}, {"the last one", world(up, in, in, in), 2, impl.OK}, {"the only one", world(up, in), 0, impl.OK},
		{"one beyond the last", world(up, in, in, in), 3, impl.ErrRange}, {"one beyond the only one", world(up, in), 1, impl.ErrRange}, {"one ahead of the first", world(up, in, in), -1, impl.ErrRange},
		{"the smallest", world(up, in), math.MinInt64, impl.ErrRange}, {"the greatest", world(up, in), math.MaxInt64, impl.ErrRange}, {"one that wraps round", world(up, in), 1 << 32, impl.ErrRange},
		{"down", world(down, in), 0, impl.ErrState}, {"down, and nothing open", world(down, session("", 0)), 0, impl.ErrState}, {"down, with nothing", world(impl.Vault{}, in), 0, impl.ErrState},
		{"down, and nobody", world(down, in), 1, impl.ErrState}, {"down, and nobody below", world(down, in), -1, impl.ErrState},
		{"a vault with a fault", world(faulty, in), 0, impl.ErrRange}, {"a vault that is down with a fault", world(impl.Vault{Loose: []byte{1}}, in), 0, impl.ErrForm},
		{"no sessions", world(up), 0, impl.ErrMany}, {"no sessions, and down", world(down), 0, impl.ErrMany}, {"four sessions", world(up, in, in, in, in), 0, impl.ErrMany}, {"nothing", impl.World{}, 0, impl.ErrMany},
		{"a session with a fault", world(up, in, session("", 1)), 0, impl.ErrForm}, {"a session with a fault, and down", world(down, session("in", -1)), 0, impl.ErrRange}, {"a session with a fault, and nobody", world(up, session("In", 1)), 9, impl.ErrForm},
	} {
		askCode(t, by.what, wantTurnedAway(by.w, by.who), by.want)
		got := askSync(t, by.what, by.w, by.who)
		askCode(t, by.what, got.Code, by.want)
		if by.want != impl.OK {
			for _, line := range []string{"a noop", "a make new", "wink", ""} {
				askWorld(t, by.what+": "+line, impl.HandleLine(by.w, by.who, line), impl.WorldResult{Code: by.want})
			}
		}
	}
}
