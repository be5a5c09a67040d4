package tests

import (
	"fmt"
	"math"
	"slices"
	"strings"
	"testing"

	"loop.example/g00447/impl"
)

// faultyStores have each fault that a store can have.
func faultyStores() []impl.Store {
	return []impl.Store{
		{}, store(1001), store(9, make([]impl.Box, 4)...), store(9, make([]impl.Box, 1<<10)...), store(9, box("In", 1, 1)), store(9, box("in", 0, 1)), store(9, box("in", 1, 1001)),
		store(9, box("in", 1, 9, 1, 2, 3, 4, 5, 6, 7)), store(9, box("in", 1, 9, 0)), store(9, box("in", 1, 4, 4)), store(9, box("in", 1, 9, 4, 2)),
		store(1, box("in", 1, 1)), store(9, box("in", 1, 1), box("in", 2, 1)), store(9, box("in", 1, 1), box("old", 1, 1)),
		{Validity: 9, Boxes: []impl.Box{{Name: "in", Validity: 1, Next: 2, Messages: []impl.Message{{Uid: 1, Data: someBytes(401)}}}}},
	}
}

func someStores() []impl.Store {
	return []impl.Store{
		store(1), {Validity: 1000, Boxes: []impl.Box{}}, store(2, box("in", 1, 1)), store(3, box("in", 2, 5, 1, 4), box("old", 1, 1000, 999)), fullStore(),
		{Validity: 9, Boxes: []impl.Box{{Name: "in", Validity: 1, Next: 9, Messages: []impl.Message{{Uid: 1, Data: []byte{}}, {Uid: 2, Flags: 15, Date: 9999, Data: someBytes(400)}}}}},
	}
}

func TestAMailboxIsFoundByItsName(t *testing.T) {
	for _, s := range someStores() {
		askCode(t, fmt.Sprint(s), impl.StoreFault(s), impl.OK)
		for place, b := range s.Boxes {
			askInt(t, b.Name, impl.BoxOf(s, b.Name), impl.OK, int64(place))
		}
		for _, name := range []string{"", "none", "inn", "i", "In", "in ", "abcdefg", "abcdefghi", "Z", "\xff", strings.Repeat("in", 1<<16)} {
			askInt(t, fmt.Sprintf("%q", name), impl.BoxOf(s, name), impl.ErrNone, 0)
		}
	}
	s := fullStore()
	askInt(t, "the first", impl.BoxOf(s, "in"), impl.OK, 0)
	askInt(t, "the second", impl.BoxOf(s, "abcdefgh"), impl.OK, 1)
	askInt(t, "the last", impl.BoxOf(s, "z"), impl.OK, 2)
	askInt(t, "none at all", impl.BoxOf(store(1), "in"), impl.ErrNone, 0)
	for _, s := range faultyStores() {
		code := wantStoreFault(s)
		if code == impl.OK {
			t.Fatalf("%v has no fault", s)
		}
		for _, name := range []string{"in", "old", "none", ""} {
			askInt(t, fmt.Sprintf("%q in %v", name, s.Validity), impl.BoxOf(s, name), code, 0)
		}
	}
}

func TestAMessageIsFoundByItsUid(t *testing.T) {
	for _, s := range someStores() {
		for _, b := range s.Boxes {
			for uid := range int64(1002) {
				place := slices.IndexFunc(b.Messages, func(m impl.Message) bool { return m.Uid == uid })
				if place < 0 {
					askInt(t, fmt.Sprint(b.Name, uid), impl.SequenceOf(b, uid), impl.ErrNone, 0)
				} else {
					askInt(t, fmt.Sprint(b.Name, uid), impl.SequenceOf(b, uid), impl.OK, int64(place+1))
				}
			}
			for _, uid := range []int64{math.MinInt64, -1, math.MaxInt64} {
				askInt(t, fmt.Sprint(b.Name, uid), impl.SequenceOf(b, uid), impl.ErrNone, 0)
			}
		}
	}
	full := fullStore().Boxes[0]
	askInt(t, "the first", impl.SequenceOf(full, 1), impl.OK, 1)
	askInt(t, "the last", impl.SequenceOf(full, 999), impl.OK, 6)
	askInt(t, "between", impl.SequenceOf(full, 3), impl.ErrNone, 0)
	askInt(t, "Next", impl.SequenceOf(box("in", 1, 5, 4), 5), impl.ErrNone, 0)
	for i, list := range faultyMessages() {
		b := impl.Box{Name: "in", Validity: 1, Next: 9, Messages: list}
		if code := wantBoxFault(b); code != impl.OK {
			askInt(t, fmt.Sprint("messages ", i), impl.SequenceOf(b, 4), code, 0)
		}
	}
	for _, b := range []impl.Box{{}, box("In", 1, 9, 4), box("in", 0, 9, 4), box("in", 1, 1001, 4), box("in", 1, 4, 4), box("in", 1, 9, 4, 4)} {
		askInt(t, "a fault", impl.SequenceOf(b, 4), wantBoxFault(b), 0)
		askInt(t, "a fault, and none", impl.SequenceOf(b, 3), wantBoxFault(b), 0)
	}
}

// wantFlags are the words of each sum of flags, written out.
var wantFlags = []string{
	"none", "seen", "answered", "seen answered",
	"flagged", "seen flagged", "answered flagged", "seen answered flagged",
	"deleted", "seen deleted", "answered deleted", "seen answered deleted",
	"flagged deleted", "seen flagged deleted", "answered flagged deleted", "seen answered flagged deleted",
}

func TestFlagsAreReadBackFromTheirWords(t *testing.T) {
	for flags, text := range wantFlags {
		askText(t, text, impl.FlagsText(int64(flags)), impl.OK, text)
		askInt(t, text, impl.ParseFlags(text), impl.OK, int64(flags))
	}
	askText(t, "all", impl.FlagsText(impl.FlagSeen+impl.FlagAnswered+impl.FlagFlagged+impl.FlagDeleted), impl.OK, "seen answered flagged deleted")
	for _, flags := range []int64{math.MinInt64, -16, -1, 16, 17, 31, 32, 1 << 32, 1<<32 + 1, math.MaxInt64} {
		askText(t, fmt.Sprint(flags), impl.FlagsText(flags), impl.ErrRange, "")
	}
}

func TestWordsThatAreNoFlags(t *testing.T) {
	wrong := []string{
		"", " ", "  ", "deleted seen", "answered seen", "flagged answered seen", "seen seen", "none none", "seen  deleted", " seen", "seen ", " none", "none ",
		"Seen", "SEEN", "seen Deleted", "None", "see", "seend", "see n", "seen delete", "eleted", "seendeleted", "none seen", "seen none", "seen,deleted", "seen\tdeleted", "seen\n",
		"\x00", "seen\x00", "\xff", "0", "1", "15", strings.Repeat("seen ", 1<<12), strings.Repeat("a", 1<<20),
	}
	for _, text := range wrong {
		askInt(t, fmt.Sprintf("%.40q", text), impl.ParseFlags(text), impl.ErrText, 0)
	}
	read := 0
	eachRow([]string{"seen", "answered", "flagged", "deleted", "none", " ", "s", "N"}, 5, func(text string) {
		flags := slices.Index(wantFlags, text)
		if flags < 0 {
			askInt(t, text, impl.ParseFlags(text), impl.ErrText, 0)
			return
		}
		read++
		askInt(t, text, impl.ParseFlags(text), impl.OK, int64(flags))
	})
	if read < 15 {
		t.Errorf("only %d texts were flags", read)
	}
}

// otherStores each differ from fullStore in one thing alone.
func otherStores() map[string]impl.Store {
	changes := map[string]func(s *impl.Store){
		"Validity of the store": func(s *impl.Store) { s.Validity-- },
		"no mailboxes":          func(s *impl.Store) { s.Boxes = nil },
		"a mailbox less":        func(s *impl.Store) { s.Boxes = s.Boxes[:2] },
		"a mailbox more":        func(s *impl.Store) { s.Boxes = append(s.Boxes, impl.Box{}) },
		"order of mailboxes":    func(s *impl.Store) { s.Boxes[0], s.Boxes[1] = s.Boxes[1], s.Boxes[0] },
	}
	for at := range fullStore().Boxes {
		of := fmt.Sprint(" of mailbox ", at)
		changes["Name"+of] = func(s *impl.Store) { s.Boxes[at].Name += "a" }
		changes["large Name"+of] = func(s *impl.Store) { s.Boxes[at].Name = strings.ToUpper(s.Boxes[at].Name) }
		changes["Validity"+of] = func(s *impl.Store) { s.Boxes[at].Validity++ }
		changes["Next"+of] = func(s *impl.Store) { s.Boxes[at].Next-- }
		changes["a message more"+of] = func(s *impl.Store) { s.Boxes[at].Messages = append(s.Boxes[at].Messages, impl.Message{}) }
		for i := range fullStore().Boxes[at].Messages {
			of := fmt.Sprint(" of message ", i, of)
			changes["gone"+of] = func(s *impl.Store) { s.Boxes[at].Messages = slices.Delete(s.Boxes[at].Messages, i, i+1) }
			changes["Uid"+of] = func(s *impl.Store) { s.Boxes[at].Messages[i].Uid += 1 << 32 }
			changes["Flags"+of] = func(s *impl.Store) { s.Boxes[at].Messages[i].Flags ^= 8 }
			changes["Date"+of] = func(s *impl.Store) { s.Boxes[at].Messages[i].Date = -7 }
			changes["no Data"+of] = func(s *impl.Store) { s.Boxes[at].Messages[i].Data = nil }
			changes["Data"+of] = func(s *impl.Store) { s.Boxes[at].Messages[i].Data[0]++ }
			changes["a byte less"+of] = func(s *impl.Store) { s.Boxes[at].Messages[i].Data = s.Boxes[at].Messages[i].Data[:1] }
			changes["a byte more"+of] = func(s *impl.Store) { s.Boxes[at].Messages[i].Data = append(s.Boxes[at].Messages[i].Data, 0) }
		}
	}
	stores := map[string]impl.Store{}
	for what, change := range changes {
		s := fullStore()
		change(&s)
		stores[what] = s
	}
	return stores
}

func TestSameStores(t *testing.T) {
	for i, a := range slices.Concat(someStores(), faultyStores()) {
		for k, b := range slices.Concat(someStores(), faultyStores()) {
			askBool(t, fmt.Sprint(i, k), impl.SameStores(a, b), i == k)
		}
	}
	for what, other := range otherStores() {
		askBool(t, what, impl.SameStores(fullStore(), other), false)
		askBool(t, what, impl.SameStores(other, fullStore()), false)
		askBool(t, what, impl.SameStores(other, other), true)
	}
}

func TestNothingIsTheSameAsNil(t *testing.T) {
	some := impl.Store{Validity: 2, Boxes: []impl.Box{{Name: "in", Validity: 1, Next: 2, Messages: []impl.Message{{Uid: 1, Data: []byte{}}}}}}
	none := impl.Store{Validity: 2, Boxes: []impl.Box{{Name: "in", Validity: 1, Next: 2, Messages: []impl.Message{{Uid: 1}}}}}
	askBool(t, "Data", impl.SameStores(some, none), true)
	some.Boxes[0].Messages, none.Boxes[0].Messages = []impl.Message{}, nil
	askBool(t, "messages", impl.SameStores(some, none), true)
	some.Boxes, none.Boxes = []impl.Box{}, nil
	askBool(t, "mailboxes", impl.SameStores(some, none), true)
	askBool(t, "a mailbox of nothing", impl.SameStores(impl.Store{Boxes: make([]impl.Box, 1)}, impl.Store{}), false)
	askBool(t, "a message of nothing", impl.SameStores(store(2, impl.Box{Messages: make([]impl.Message, 1)}), store(2, impl.Box{})), false)
}
