package tests

import (
	"fmt"
	"math"
	"regexp"
	"slices"
	"strings"
	"testing"

	"loop.example/g00447/impl"
)

// messages have these Uids, and something in them that is no other one's.
func messages(uids ...int64) []impl.Message {
	var list []impl.Message
	for _, uid := range uids {
		list = append(list, impl.Message{Uid: uid, Flags: (uid%16 + 16) % 16, Date: 7, Data: []byte(fmt.Sprint("\n", uid))})
	}
	return list
}

func box(name string, validity, next int64, uids ...int64) impl.Box {
	return impl.Box{Name: name, Validity: validity, Next: next, Messages: messages(uids...)}
}

func store(validity int64, list ...impl.Box) impl.Store {
	return impl.Store{Validity: validity, Boxes: list}
}

// fullStore has as much as a store can have.
func fullStore() impl.Store {
	return store(1000, box("in", 1, 1000, 1, 2, 4, 500, 998, 999), box("abcdefgh", 999, 7, 1, 2, 3, 4, 5, 6), box("z", 500, 1))
}

// asked is a code and whether what it tells is so, in the order in which the document names them.
type asked struct {
	isSo bool
	code int64
}

func firstCode(list ...asked) int64 {
	for _, a := range list {
		if a.isSo {
			return a.code
		}
	}
	return impl.OK
}

func isOut(n, first, last int64) bool {
	return n < first || n > last
}

func wantMessageFault(m impl.Message) int64 {
	return firstCode(
		asked{isOut(m.Uid, 1, 999) || isOut(m.Flags, 0, 15) || isOut(m.Date, 0, 9999), impl.ErrRange},
		asked{len(m.Data) > 400, impl.ErrMany})
}

var boxNames = regexp.MustCompile(`^[a-z]{1,8}\z`)

func wantBoxFault(b impl.Box) int64 {
	list := []asked{
		{!boxNames.MatchString(b.Name), impl.ErrText},
		{isOut(b.Validity, 1, 999) || isOut(b.Next, 1, 1000), impl.ErrRange},
		{len(b.Messages) > 6, impl.ErrMany}}
	for i, m := range b.Messages {
		fault := wantMessageFault(m)
		doesRise := i == 0 || b.Messages[i-1].Uid < m.Uid
		list = append(list, asked{fault != 0, fault}, asked{!doesRise || m.Uid >= b.Next, impl.ErrForm})
	}
	return firstCode(list...)
}

func wantStoreFault(s impl.Store) int64 {
	list := []asked{
		{isOut(s.Validity, 1, 1000), impl.ErrRange},
		{len(s.Boxes) > 3, impl.ErrMany}}
	names, validities := map[string]bool{}, map[int64]bool{}
	for _, b := range s.Boxes {
		fault := wantBoxFault(b)
		list = append(list, asked{fault != 0, fault}, asked{b.Validity >= s.Validity, impl.ErrState}, asked{names[b.Name] || validities[b.Validity], impl.ErrTaken})
		names[b.Name], validities[b.Validity] = true, true
	}
	return firstCode(list...)
}

func askCode(t *testing.T, what string, got, want int64) {
	t.Helper()
	if got != want {
		t.Errorf("%s: got code %d, want code %d", what, got, want)
	}
}

func TestMessageFault(t *testing.T) {
	var (
		uids  = []int64{math.MinInt64, -1, 0, 1, 2, 998, 999, 1000, math.MaxInt64}
		flags = []int64{math.MinInt64, -1, 0, 1, 8, 15, 16, 17, math.MaxInt64}
		dates = []int64{math.MinInt64, -1, 0, 1, 9998, 9999, 10000, math.MaxInt64}
		sizes = []int{0, 1, 399, 400, 401, 1 << 16}
	)
	faults := map[int64]int{}
	for _, uid := range uids {
		for _, flag := range flags {
			for _, date := range dates {
				for _, size := range sizes {
					m := impl.Message{Uid: uid, Flags: flag, Date: date, Data: someBytes(size)}
					what := fmt.Sprint("MessageFault ", uid, " ", flag, " ", date, " of bytes ", size)
					got := impl.MessageFault(m)
					askCode(t, what, got, wantMessageFault(m))
					faults[got]++
				}
			}
		}
	}
	if faults[impl.OK] != 4*4*4*4 || len(faults) != 3 {
		t.Errorf("got as many of each code: %v", faults)
	}
	askCode(t, "nothing", impl.MessageFault(impl.Message{}), impl.ErrRange)
	askCode(t, "the least", impl.MessageFault(impl.Message{Uid: 1}), impl.OK)
	askCode(t, "the most", impl.MessageFault(impl.Message{Uid: 999, Flags: 15, Date: 9999, Data: allBytes()}), impl.OK)
	askCode(t, "range ahead of many", impl.MessageFault(impl.Message{Uid: 1, Date: -1, Data: someBytes(401)}), impl.ErrRange)
}

func TestNamesOfMailboxes(t *testing.T) {
	for _, name := range []string{"a", "z", "in", "abcdefgh", "zzzzzzzz"} {
		askCode(t, name, impl.BoxFault(box(name, 1, 1)), impl.OK)
	}
	wrong := []string{"", "abcdefghi", strings.Repeat("a", 1<<16), "A", "In", "inN", "1", "in1", " ", "in ", " in", "i n", "\x00", "in\n", "\xe4", "inä", "`", "{", "a-b", "a\xff"}
	for _, name := range wrong {
		askCode(t, fmt.Sprintf("%q", name), impl.BoxFault(box(name, 1, 1)), impl.ErrText)
	}
	for b := range 256 {
		one := string([]byte{byte(b)})
		for _, name := range []string{one, "a" + one, one + "a", "abc" + one + "def"} {
			askCode(t, fmt.Sprintf("%q", name), impl.BoxFault(box(name, 1, 1)), wantBoxFault(box(name, 1, 1)))
		}
	}
}

// faultyMessages are lists of messages, without and with each fault, at each place.
func faultyMessages() [][]impl.Message {
	lists := [][]impl.Message{nil, {}, messages(1), messages(998), messages(999), messages(1000), messages(0), messages(-1)}
	lists = append(lists, messages(1, 2), messages(2, 1), messages(2, 2), messages(1, 3, 2), messages(1, 3, 3), messages(3, 1, 2), messages(1, 1000), messages(5, 4, 1000), messages(1000, 4, 5))
	lists = append(lists, messages(1, 2, 3, 4, 5, 6), messages(1, 2, 3, 4, 5, 6, 7), messages(6, 5, 4, 3, 2, 1), messages(7, 6, 5, 4, 3, 2, 1), make([]impl.Message, 1<<12))
	for place := range 3 {
		for _, wrong := range []impl.Message{{Uid: 4, Flags: 16}, {Uid: 4, Date: -1}, {Uid: 4, Data: someBytes(401)}, {Uid: 0}, {Uid: 1, Data: someBytes(401)}, {Uid: 1000, Data: someBytes(401)}} {
			for _, others := range [][]int64{{1, 4, 5}, {2, 4, 5}, {5, 4, 3}, {4, 4, 4}} {
				list := messages(others...)
				list[place] = wrong
				lists = append(lists, list)
			}
		}
	}
	return lists
}

func TestBoxFault(t *testing.T) {
	faults := map[int64]int{}
	for _, name := range []string{"in", "abcdefgh", "", "abcdefghi", "In"} {
		for _, validity := range []int64{math.MinInt64, -1, 0, 1, 999, 1000, math.MaxInt64} {
			for _, next := range []int64{math.MinInt64, -1, 0, 1, 2, 3, 5, 6, 7, 999, 1000, 1001, math.MaxInt64} {
				for i, list := range faultyMessages() {
					b := impl.Box{Name: name, Validity: validity, Next: next, Messages: list}
					got := impl.BoxFault(b)
					askCode(t, fmt.Sprintf("BoxFault %q %d %d messages %d", name, validity, next, i), got, wantBoxFault(b))
					faults[got]++
				}
			}
		}
	}
	for _, code := range []int64{impl.OK, impl.ErrText, impl.ErrRange, impl.ErrMany, impl.ErrForm} {
		if faults[code] == 0 {
			t.Errorf("no mailbox has the code %d", code)
		}
	}
}

func TestBoxFaultByHand(t *testing.T) {
	broken := func(b impl.Box, change func(b *impl.Box)) impl.Box {
		change(&b)
		return b
	}
	list := []struct {
		what string
		box  impl.Box
		code int64
	}{
		{"ordinary", box("in", 1, 5, 1, 4), impl.OK},
		{"nothing", impl.Box{}, impl.ErrText},
		{"empty", box("in", 1, 1), impl.OK},
		{"no room", box("in", 999, 1000, 1, 2, 3, 4, 5, 999), impl.OK},
		{"one too many", box("in", 1, 1000, 1, 2, 3, 4, 5, 6, 7), impl.ErrMany},
		{"Uids fall", box("in", 1, 5, 4, 1), impl.ErrForm},
		{"Uids are the same", box("in", 1, 5, 4, 4), impl.ErrForm},
		{"a Uid is Next", box("in", 1, 4, 1, 4), impl.ErrForm},
		{"a Uid is above Next", box("in", 1, 2, 1, 4), impl.ErrForm},
		{"a Uid is one below Next", box("in", 1, 5, 1, 4), impl.OK},
		{"Uids fall further behind", box("in", 1, 9, 1, 5, 6, 2), impl.ErrForm},
		{"text ahead of range", box("", 0, 0), impl.ErrText},
		{"range ahead of many", box("in", 0, 1000, 1, 2, 3, 4, 5, 6, 7), impl.ErrRange},
		{"range of Next ahead of many", box("in", 1, 1001, 1, 2, 3, 4, 5, 6, 7), impl.ErrRange},
		{"many ahead of messages", box("in", 1, 9, 0, 0, 0, 0, 0, 0, 0), impl.ErrMany},
		{"a message's fault ahead of its place", broken(box("in", 1, 5, 1, 4), func(b *impl.Box) { b.Messages[1] = impl.Message{Uid: 1, Date: 10000} }), impl.ErrRange},
		{"many of a message ahead of its place", broken(box("in", 1, 5, 1, 4), func(b *impl.Box) { b.Messages[1] = impl.Message{Uid: 1, Data: someBytes(401)} }), impl.ErrMany},
		{"the first one's place ahead of the second one's fault", box("in", 1, 2, 2, 0), impl.ErrForm},
		{"the second one's place ahead of the third one's fault", box("in", 1, 5, 3, 3, 1000), impl.ErrForm},
		{"the first one's bytes ahead of the second one's range", broken(box("in", 1, 5, 1, 0), func(b *impl.Box) { b.Messages[0].Data = someBytes(401) }), impl.ErrMany},
	}
	for _, l := range list {
		askCode(t, l.what, impl.BoxFault(l.box), l.code)
	}
}

func TestStoreFault(t *testing.T) {
	kinds := []impl.Box{
		box("in", 1, 5, 1, 4), box("in", 2, 1), box("old", 1, 1), box("z", 998, 1), box("y", 999, 2, 1),
		box("In", 3, 1), box("in", 0, 1), box("old", 3, 4, 4), box("old", 1000, 1), {},
	}
	faults := map[int64]int{}
	for _, validity := range []int64{math.MinInt64, -1, 0, 1, 2, 3, 999, 1000, 1001, math.MaxInt64} {
		lists := [][]impl.Box{nil}
		for range 5 {
			var longer [][]impl.Box
			for _, list := range lists {
				s := store(validity, list...)
				got := impl.StoreFault(s)
				askCode(t, fmt.Sprint("StoreFault ", s), got, wantStoreFault(s))
				faults[got]++
				for _, b := range kinds {
					longer = append(longer, append(slices.Clone(list), b))
				}
			}
			lists = longer
		}
	}
	for _, code := range []int64{impl.OK, impl.ErrText, impl.ErrRange, impl.ErrMany, impl.ErrForm, impl.ErrState, impl.ErrTaken} {
		if faults[code] == 0 {
			t.Errorf("no store has the code %d", code)
		}
	}
}

func TestStoreFaultByHand(t *testing.T) {
	list := []struct {
		what  string
		store impl.Store
		code  int64
	}{
		{"nothing", impl.Store{}, impl.ErrRange},
		{"no mailboxes", store(1), impl.OK},
		{"no mailboxes, no nil", impl.Store{Validity: 1000, Boxes: []impl.Box{}}, impl.OK},
		{"a Validity too high", store(1001), impl.ErrRange},
		{"full", fullStore(), impl.OK},
		{"four", store(9, box("a", 1, 1), box("b", 2, 1), box("c", 3, 1), box("d", 4, 1)), impl.ErrMany},
		{"the Validity of the store", store(1, box("in", 1, 1)), impl.ErrState},
		{"one below that of the store", store(2, box("in", 1, 1)), impl.OK},
		{"two of one name", store(9, box("in", 1, 1), box("old", 2, 1), box("in", 3, 1)), impl.ErrTaken},
		{"two of one Validity", store(9, box("in", 1, 1), box("old", 2, 1), box("z", 1, 1)), impl.ErrTaken},
		{"two of both", store(9, box("in", 1, 1), box("in", 1, 1)), impl.ErrTaken},
		{"Validities fall", store(9, box("in", 8, 1), box("old", 2, 1), box("z", 1, 1)), impl.OK},
		{"range ahead of many", store(0, make([]impl.Box, 4)...), impl.ErrRange},
		{"many ahead of mailboxes", store(1, make([]impl.Box, 4)...), impl.ErrMany},
		{"a mailbox's fault ahead of its Validity", store(1, box("in", 1, 1, 1)), impl.ErrForm},
		{"a Validity ahead of a name", store(2, box("in", 1, 1), box("in", 2, 1)), impl.ErrState},
		{"the first one's Validity ahead of the second one's fault", store(1, box("in", 1, 1), box("", 1, 1)), impl.ErrState},
		{"the second one's name ahead of the third one's fault", store(9, box("in", 1, 1), box("in", 2, 1), box("", 3, 1)), impl.ErrTaken},
		{"the first one's fault ahead of the second one's name", store(9, box("in", 1000, 1), box("in", 2, 1)), impl.ErrRange},
		{"a name of one that is behind", store(2, box("in", 1, 1), box("old", 5, 1), box("in", 1, 1)), impl.ErrState},
	}
	for _, l := range list {
		askCode(t, l.what, impl.StoreFault(l.store), l.code)
	}
}
