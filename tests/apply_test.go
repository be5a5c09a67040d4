package tests

import (
	"fmt"
	"maps"
	"math/rand"
	"slices"
	"testing"

	"loop.example/g00447/impl"
)

// cloned is the same store in new memory.
func cloned(s impl.Store) impl.Store {
	fresh := impl.Store{Validity: s.Validity}
	for _, b := range s.Boxes {
		list := b.Messages
		b.Messages = nil
		for _, m := range list {
			m.Data = slices.Clone(m.Data)
			b.Messages = append(b.Messages, m)
		}
		fresh.Boxes = append(fresh.Boxes, b)
	}
	return fresh
}

// wantApply goes by the document's words, message by message, with lists alone.
func wantApply(s impl.Store, o impl.Op) impl.StoreResult {
	if code := firstCode(asked{wantStoreFault(s) != 0, wantStoreFault(s)}, asked{wantOpFault(o) != 0, wantOpFault(o)}); code != 0 {
		return impl.StoreResult{Code: code}
	}
	s = cloned(s)
	named := func(name string) *impl.Box {
		for i := range s.Boxes {
			if s.Boxes[i].Name == name {
				return &s.Boxes[i]
			}
		}
		return nil
	}
	here, there := named(o.Box), named(o.To)
	isMake, isAdd, isCopy := o.Kind == impl.OpMake, o.Kind == impl.OpAdd, o.Kind == impl.OpCopy || o.Kind == impl.OpMove
	var told, others []impl.Message
	if here != nil {
		for _, m := range here.Messages {
			if slices.Contains(o.Uids, m.Uid) || o.Kind == impl.OpPurge && m.Flags >= 8 {
				told = append(told, m)
			} else {
				others = append(others, m)
			}
		}
	}
	code := firstCode(
		asked{isMake && here != nil, impl.ErrTaken},
		asked{isMake && (len(s.Boxes) == 3 || s.Validity == 1000), impl.ErrFull},
		asked{!isMake && here == nil, impl.ErrNone},
		asked{isAdd && here != nil && (len(here.Messages) == 6 || here.Next == 1000), impl.ErrFull},
		asked{isCopy && there == nil, impl.ErrNone},
		asked{o.Kind == impl.OpMove && here == there, impl.ErrState},
		asked{isCopy && there != nil && (len(there.Messages)+len(told) > 6 || there.Next+int64(len(told)) > 1000), impl.ErrFull})
	if code != impl.OK {
		return impl.StoreResult{Code: code}
	}
	var uids []int64
	add := func(b *impl.Box, m impl.Message) {
		m.Uid, b.Next = b.Next, b.Next+1
		b.Messages, uids = append(b.Messages, m), append(uids, m.Uid)
	}
	switch o.Kind {
	case impl.OpMake:
		s.Boxes = append(s.Boxes, impl.Box{Name: o.Box, Validity: s.Validity, Next: 1})
		s.Validity++
	case impl.OpErase:
		s.Boxes = slices.DeleteFunc(s.Boxes, func(b impl.Box) bool { return b.Name == o.Box })
	case impl.OpAdd:
		add(here, impl.Message{Flags: o.Flags, Date: o.Date, Data: o.Data})
	case impl.OpFlag:
		for i, m := range here.Messages {
			if slices.Contains(o.Uids, m.Uid) {
				here.Messages[i].Flags = wantTurned(m.Flags, o.Mode, o.Flags)
				uids = append(uids, m.Uid)
			}
		}
	case impl.OpMove, impl.OpCopy:
		for _, m := range told {
			add(there, m)
		}
		if o.Kind == impl.OpMove {
			here.Messages = others
		}
	case impl.OpPurge:
		here.Messages = others
		for _, m := range told {
			uids = append(uids, m.Uid)
		}
	}
	return impl.StoreResult{Uids: uids, Store: s}
}

// wantTurned goes flag by flag.
func wantTurned(flags, mode, by int64) int64 {
	var sum int64
	for _, flag := range []int64{1, 2, 4, 8} {
		was, is := flags/flag%2 == 1, by/flag%2 == 1
		if mode == impl.ModeSet && is || mode == impl.ModeMore && (was || is) || mode == impl.ModeLess && was && !is {
			sum += flag
		}
	}
	return sum
}

// resultText is the same for nothing and nil.
func resultText(r impl.StoreResult) string {
	return fmt.Sprint(r)
}

func askStore(t *testing.T, what string, got, want impl.StoreResult) {
	t.Helper()
	if resultText(got) != resultText(want) {
		t.Errorf("%s:\ngot  %s\nwant %s", what, resultText(got), resultText(want))
	}
}

func opText(o impl.Op) string {
	o.Data = o.Data[:min(len(o.Data), 8)]
	o.Uids = o.Uids[:min(len(o.Uids), 8)]
	return fmt.Sprintf("%.99s", fmt.Sprint(o))
}

// opStores have room for all, for some and for none, of messages, Uids, mailboxes and Validities.
func opStores() []impl.Store {
	list := slices.Concat(someStores(), faultyStores())
	for _, validity := range []int64{3, 4, 998, 999, 1000} {
		list = append(list, store(validity), store(validity, box("in", 2, 5, 1, 4)), store(validity, box("old", 1, 1), box("in", 2, 5, 1, 4)), store(validity, box("in", 2, 5, 1, 4), box("z", 1, 999)))
	}
	for _, next := range []int64{7, 993, 994, 995, 996, 997, 998, 999, 1000} {
		for n := range 7 {
			list = append(list, store(9, box("z", 3, 9, 8), box("in", 1, 20, 1, 2, 3, 7, 8, 15), box("old", 2, next, times(0)...)))
			last := &list[len(list)-1].Boxes[2]
			for uid := range int64(n) {
				last.Messages = append(last.Messages, messages(uid+1)...)
			}
		}
	}
	return list
}

func opsForStores() []impl.Op {
	list := []impl.Op{{}, {Kind: 8, Box: "in"}, makeOp("In"), moveOp("in", "", 1), flagOp("in", 0, 0), flagOp("in", 1, 16), flagOp("in", 1, 0, 4, 2), flagOp("in", 1, 0, 1, 2, 3, 4, 5, 6, 7), addOp("in", 0, 10000, ""), addOp("in", 0, 0, string(someBytes(401)))}
	for _, name := range []string{"in", "old", "z", "abcdefgh", "new", "none"} {
		list = append(list, makeOp(name), eraseOp(name), purgeOp(name), addOp(name, 0, 0, ""), addOp(name, 15, 9999, string(someBytes(400))))
		for _, uids := range [][]int64{nil, {1}, {4}, {8}, {999}, {1, 2}, {3, 5, 9}, {7, 8, 15, 16}, {1, 2, 3, 7, 8}, {1, 2, 3, 7, 8, 15}, {1, 2, 4, 500, 998, 999}, {994, 995, 996, 997, 998, 999}} {
			for _, to := range []string{"in", "old", "z", "none"} {
				list = append(list, copyOp(name, to, uids...), moveOp(name, to, uids...))
			}
			for mode := int64(impl.ModeSet); mode <= impl.ModeLess; mode++ {
				for _, flags := range []int64{0, 1, 8, 10, 15} {
					list = append(list, flagOp(name, mode, flags, uids...))
				}
			}
		}
	}
	return list
}

func TestApplyOp(t *testing.T) {
	type way struct{ kind, code int64 }
	ways := map[way]int{}
	for _, s := range opStores() {
		for _, o := range opsForStores() {
			got := impl.ApplyOp(s, o)
			askStore(t, opText(o), got, wantApply(s, o))
			ways[way{o.Kind, got.Code}]++
			if got.Code == impl.OK {
				askCode(t, opText(o), impl.StoreFault(got.Store), impl.OK)
			}
		}
	}
	for _, w := range []way{
		{impl.OpMake, impl.OK}, {impl.OpMake, impl.ErrTaken}, {impl.OpMake, impl.ErrFull}, {impl.OpErase, impl.OK}, {impl.OpErase, impl.ErrNone},
		{impl.OpAdd, impl.OK}, {impl.OpAdd, impl.ErrNone}, {impl.OpAdd, impl.ErrFull}, {impl.OpFlag, impl.OK}, {impl.OpFlag, impl.ErrNone}, {impl.OpPurge, impl.OK}, {impl.OpPurge, impl.ErrNone},
		{impl.OpCopy, impl.OK}, {impl.OpCopy, impl.ErrNone}, {impl.OpCopy, impl.ErrFull}, {impl.OpMove, impl.OK}, {impl.OpMove, impl.ErrNone}, {impl.OpMove, impl.ErrState}, {impl.OpMove, impl.ErrFull},
	} {
		if ways[w] == 0 {
			t.Errorf("no op of Kind %d has the code %d", w.kind, w.code)
		}
	}
}

func uidsOf(b impl.Box) []int64 {
	var list []int64
	for _, m := range b.Messages {
		list = append(list, m.Uid)
	}
	return list
}

func dated(b impl.Box, date int64) impl.Box {
	for i := range b.Messages {
		b.Messages[i].Date = date + int64(i)
	}
	return b
}

func TestMailboxesMadeAndErased(t *testing.T) {
	first := impl.ApplyOp(store(1), makeOp("in"))
	askStore(t, "the first", first, impl.StoreResult{Store: store(2, box("in", 1, 1))})
	second := impl.ApplyOp(first.Store, makeOp("old"))
	askStore(t, "the second", second, impl.StoreResult{Store: store(3, box("in", 1, 1), box("old", 2, 1))})
	third := impl.ApplyOp(second.Store, makeOp("a"))
	askStore(t, "the third", third, impl.StoreResult{Store: store(4, box("in", 1, 1), box("old", 2, 1), box("a", 3, 1))})
	askStore(t, "a fourth", impl.ApplyOp(third.Store, makeOp("b")), impl.StoreResult{Code: impl.ErrFull})
	askStore(t, "once more", impl.ApplyOp(second.Store, makeOp("in")), impl.StoreResult{Code: impl.ErrTaken})
	askStore(t, "taken ahead of full", impl.ApplyOp(third.Store, makeOp("a")), impl.StoreResult{Code: impl.ErrTaken})
	askStore(t, "the last Validity", impl.ApplyOp(store(999), makeOp("in")), impl.StoreResult{Store: store(1000, box("in", 999, 1))})
	askStore(t, "no Validity", impl.ApplyOp(store(1000), makeOp("in")), impl.StoreResult{Code: impl.ErrFull})
	askStore(t, "no Validity, and taken", impl.ApplyOp(store(1000, box("in", 1, 1)), makeOp("in")), impl.StoreResult{Code: impl.ErrTaken})
	three := store(9, box("a", 5, 9, 1, 8), box("b", 2, 3, 2), box("c", 7, 1))
	askStore(t, "the first erased", impl.ApplyOp(three, eraseOp("a")), impl.StoreResult{Store: store(9, box("b", 2, 3, 2), box("c", 7, 1))})
	askStore(t, "one between erased", impl.ApplyOp(three, eraseOp("b")), impl.StoreResult{Store: store(9, box("a", 5, 9, 1, 8), box("c", 7, 1))})
	askStore(t, "the last erased", impl.ApplyOp(three, eraseOp("c")), impl.StoreResult{Store: store(9, box("a", 5, 9, 1, 8), box("b", 2, 3, 2))})
	askStore(t, "the only one erased", impl.ApplyOp(store(9, box("a", 5, 9, 1)), eraseOp("a")), impl.StoreResult{Store: store(9)})
	for _, o := range someOps()[1:] {
		askStore(t, opText(o), impl.ApplyOp(store(9), o), impl.StoreResult{Code: impl.ErrNone})
		askStore(t, opText(o), impl.ApplyOp(store(9, box("old", 5, 9, 1)), o), impl.StoreResult{Code: impl.ErrNone})
	}
}

func TestMessagesAdded(t *testing.T) {
	five, six := box("in", 1, 9, 1, 2, 3, 4, 5), box("in", 1, 9, 1, 2, 3, 4, 5, 8)
	want := box("in", 1, 10, 1, 2, 3, 4, 5)
	want.Messages = append(want.Messages, impl.Message{Uid: 9, Flags: 5, Date: 77, Data: []byte("data")})
	askStore(t, "to 5", impl.ApplyOp(store(2, five), addOp("in", 5, 77, "data")), impl.StoreResult{Uids: []int64{9}, Store: store(2, want)})
	askStore(t, "to 6", impl.ApplyOp(store(2, six), addOp("in", 5, 77, "data")), impl.StoreResult{Code: impl.ErrFull})
	last := impl.ApplyOp(store(2, box("in", 1, 999)), addOp("in", 0, 0, ""))
	askStore(t, "Next of 999", last, impl.StoreResult{Uids: []int64{999}, Store: store(2, impl.Box{Name: "in", Validity: 1, Next: 1000, Messages: []impl.Message{{Uid: 999}}})})
	askStore(t, "Next of 1000", impl.ApplyOp(last.Store, addOp("in", 0, 0, "")), impl.StoreResult{Code: impl.ErrFull})
	askStore(t, "Next of 1000, nothing there", impl.ApplyOp(store(2, box("in", 1, 1000)), addOp("in", 0, 0, "")), impl.StoreResult{Code: impl.ErrFull})
	askStore(t, "all that a message can have", impl.ApplyOp(store(2, box("in", 1, 1)), addOp("in", 15, 9999, string(someBytes(400)))),
		impl.StoreResult{Uids: []int64{1}, Store: store(2, impl.Box{Name: "in", Validity: 1, Next: 2, Messages: []impl.Message{{Uid: 1, Flags: 15, Date: 9999, Data: someBytes(400)}}})})
}

func TestFlagsThatAreTurned(t *testing.T) {
	for was := range int64(16) {
		for by := range int64(16) {
			s := store(2, impl.Box{Name: "in", Validity: 1, Next: 9, Messages: []impl.Message{{Uid: 1, Flags: was}, {Uid: 5, Flags: was}, {Uid: 7, Flags: was}}})
			for mode, want := range map[int64]int64{impl.ModeSet: by, impl.ModeMore: was | by, impl.ModeLess: was - was&by} {
				for _, uids := range [][]int64{nil, {1}, {5}, {1, 7}, {1, 5, 7}, {2, 3, 8}, {1, 2, 3, 5, 6, 999}} {
					got := impl.ApplyOp(s, flagOp("in", mode, by, uids...))
					for i, m := range s.Boxes[0].Messages {
						flags := was
						if slices.Contains(uids, m.Uid) {
							flags = want
						}
						askCode(t, fmt.Sprint(mode, was, by, uids, m.Uid), got.Store.Boxes[0].Messages[i].Flags, flags)
					}
				}
			}
		}
	}
	s := store(2, box("in", 1, 9, 1, 5, 7))
	for _, l := range []struct{ told, want []int64 }{{nil, nil}, {[]int64{5}, []int64{5}}, {[]int64{1, 5, 7}, []int64{1, 5, 7}}, {[]int64{2, 6, 8}, nil}, {[]int64{1, 2, 7, 999}, []int64{1, 7}}} {
		for mode := int64(1); mode <= 3; mode++ {
			if got := impl.ApplyOp(s, flagOp("in", mode, 0, l.told...)); !slices.Equal(got.Uids, l.want) {
				t.Errorf("mode %d of %v tells %v", mode, l.told, got.Uids)
			}
		}
	}
}

func TestMessagesPurged(t *testing.T) {
	list := []struct {
		flags      []int64
		gone, left []int64
	}{
		{[]int64{0, 7, 1}, nil, []int64{1, 2, 3}},
		{[]int64{0, 8, 1}, []int64{2}, []int64{1, 3}},
		{[]int64{15, 0, 9}, []int64{1, 3}, []int64{2}},
		{[]int64{8, 9, 15}, []int64{1, 2, 3}, nil},
		{nil, nil, nil},
	}
	for _, l := range list {
		b := box("in", 1, 9)
		for i, flags := range l.flags {
			b.Messages = append(b.Messages, impl.Message{Uid: int64(i + 1), Flags: flags})
		}
		got := impl.ApplyOp(store(3, box("old", 2, 9, 8), b), purgeOp("in"))
		if got.Code != impl.OK || !slices.Equal(got.Uids, l.gone) || !slices.Equal(uidsOf(got.Store.Boxes[1]), l.left) || got.Store.Boxes[1].Next != 9 || len(got.Store.Boxes[0].Messages) != 1 {
			t.Errorf("%v: got %s", l.flags, resultText(got))
		}
	}
}

func TestMessagesCopiedAndMoved(t *testing.T) {
	list := []struct {
		what      string
		here, to  impl.Box
		told      []int64
		code      int64
		uids      []int64
		next      int64
		copy, mov []int64
	}{
		{"none", box("in", 1, 9, 1, 5), box("old", 2, 4, 3), nil, impl.OK, nil, 4, []int64{1, 5}, []int64{1, 5}},
		{"none that is there", box("in", 1, 9, 1, 5), box("old", 2, 4, 3), []int64{2, 9}, impl.OK, nil, 4, []int64{1, 5}, []int64{1, 5}},
		{"none, to a full one", box("in", 1, 9, 1, 5), box("old", 2, 1000, 1, 2, 3, 4, 5, 6), []int64{2, 9}, impl.OK, nil, 1000, []int64{1, 5}, []int64{1, 5}},
		{"one", box("in", 1, 9, 1, 5), box("old", 2, 4, 3), []int64{2, 5}, impl.OK, []int64{4}, 5, []int64{1, 5}, []int64{1}},
		{"all", box("in", 1, 9, 1, 5), box("old", 2, 4), []int64{1, 5}, impl.OK, []int64{4, 5}, 6, []int64{1, 5}, nil},
		{"room for all", box("in", 1, 9, 1, 2, 3), box("old", 2, 9, 1, 2, 3), []int64{1, 2, 3}, impl.OK, []int64{9, 10, 11}, 12, []int64{1, 2, 3}, nil},
		{"room for all but one", box("in", 1, 9, 1, 2, 3), box("old", 2, 9, 1, 2, 3, 4), []int64{1, 2, 3}, impl.ErrFull, nil, 0, nil, nil},
		{"room for those that are there", box("in", 1, 9, 1, 2), box("old", 2, 9, 1, 2, 3, 4), []int64{1, 2, 3}, impl.OK, []int64{9, 10}, 11, []int64{1, 2}, nil},
		{"room for none", box("in", 1, 9, 1, 2, 3), box("old", 2, 9, 1, 2, 3, 4, 5, 6), []int64{1}, impl.ErrFull, nil, 0, nil, nil},
		{"Next becomes 1000", box("in", 1, 9, 1, 2, 3), box("old", 2, 998), []int64{1, 2}, impl.OK, []int64{998, 999}, 1000, []int64{1, 2, 3}, []int64{3}},
		{"Next would become 1001", box("in", 1, 9, 1, 2, 3), box("old", 2, 998), []int64{1, 2, 3}, impl.ErrFull, nil, 0, nil, nil},
		{"Next is 1000", box("in", 1, 9, 1, 2, 3), box("old", 2, 1000), []int64{1}, impl.ErrFull, nil, 0, nil, nil},
		{"from a full one", box("in", 1, 1000, 1, 2, 3, 4, 5, 999), box("old", 2, 1), []int64{1, 2, 3, 4, 5, 999}, impl.OK, []int64{1, 2, 3, 4, 5, 6}, 7, []int64{1, 2, 3, 4, 5, 999}, nil},
	}
	for _, l := range list {
		for _, isMove := range []bool{false, true} {
			o, left := copyOp("in", "old", l.told...), l.copy
			if isMove {
				o, left = moveOp("in", "old", l.told...), l.mov
			}
			s := store(9, box("z", 4, 4), dated(l.here, 100), l.to)
			got := impl.ApplyOp(s, o)
			if l.code != impl.OK {
				askStore(t, l.what, got, impl.StoreResult{Code: l.code})
				continue
			}
			want := store(9, box("z", 4, 4), dated(l.here, 100), l.to)
			want.Boxes[1].Messages = slices.DeleteFunc(slices.Clone(l.here.Messages), func(m impl.Message) bool { return !slices.Contains(left, m.Uid) })
			want.Boxes[2].Next = l.next
			for i, m := range slices.DeleteFunc(slices.Clone(l.here.Messages), func(m impl.Message) bool { return !slices.Contains(l.told, m.Uid) }) {
				m.Uid = l.uids[i]
				want.Boxes[2].Messages = append(want.Boxes[2].Messages, m)
			}
			askStore(t, l.what, got, impl.StoreResult{Uids: l.uids, Store: want})
		}
	}
}

func TestMailboxesCopiedAndMovedToThemselves(t *testing.T) {
	s := store(9, box("in", 1, 9, 1, 5, 8), box("old", 2, 1))
	got := impl.ApplyOp(s, copyOp("in", "in", 1, 5, 8))
	if got.Code != impl.OK || !slices.Equal(got.Uids, []int64{9, 10, 11}) || !slices.Equal(uidsOf(got.Store.Boxes[0]), []int64{1, 5, 8, 9, 10, 11}) || got.Store.Boxes[0].Next != 12 {
		t.Errorf("got %s", resultText(got))
	}
	for i, m := range got.Store.Boxes[0].Messages[3:] {
		m.Uid = got.Store.Boxes[0].Messages[i].Uid
		if resultText(impl.StoreResult{Store: store(1, impl.Box{Messages: []impl.Message{m}})}) != resultText(impl.StoreResult{Store: store(1, impl.Box{Messages: got.Store.Boxes[0].Messages[i : i+1]})}) {
			t.Errorf("message %d is not what it is copied from", i)
		}
	}
	askStore(t, "a copy to itself, no room for it", impl.ApplyOp(store(9, box("in", 1, 9, 1, 5, 6, 8)), copyOp("in", "in", 1, 5, 8)), impl.StoreResult{Code: impl.ErrFull})
	askStore(t, "a copy to itself, no Uids for it", impl.ApplyOp(store(9, box("in", 1, 999, 1, 5)), copyOp("in", "in", 1, 5)), impl.StoreResult{Code: impl.ErrFull})
	for _, uids := range [][]int64{nil, {1}, {1, 5, 8}, {2}} {
		askStore(t, "a move to itself", impl.ApplyOp(s, moveOp("in", "in", uids...)), impl.StoreResult{Code: impl.ErrState})
	}
	askStore(t, "a move to itself, which is full", impl.ApplyOp(fullStore(), moveOp("in", "in", 1)), impl.StoreResult{Code: impl.ErrState})
	askStore(t, "a move to itself, which is not there", impl.ApplyOp(s, moveOp("none", "none", 1)), impl.StoreResult{Code: impl.ErrNone})
	askStore(t, "a copy to what is not there", impl.ApplyOp(s, copyOp("in", "none")), impl.StoreResult{Code: impl.ErrNone})
	askStore(t, "a move to what is not there", impl.ApplyOp(s, moveOp("in", "none", 1)), impl.StoreResult{Code: impl.ErrNone})
	askStore(t, "a copy of what is not there", impl.ApplyOp(s, copyOp("none", "in", 1)), impl.StoreResult{Code: impl.ErrNone})
}

func TestAStoreWithAFaultBesideAnOpWithOne(t *testing.T) {
	for _, s := range faultyStores() {
		for _, o := range slices.Concat(someOps(), []impl.Op{{}, makeOp("In"), flagOp("in", 4, 0, 1), moveOp("in", "in", times(7, 1)...)}) {
			askStore(t, opText(o), impl.ApplyOp(s, o), impl.StoreResult{Code: wantStoreFault(s)})
			askStore(t, opText(o), impl.ApplyAll(s, []impl.Op{o}), impl.StoreResult{Code: wantStoreFault(s)})
		}
		askStore(t, "no ops", impl.ApplyAll(s, nil), impl.StoreResult{Code: wantStoreFault(s)})
		askStore(t, "61 ops", impl.ApplyAll(s, make([]impl.Op, 61)), impl.StoreResult{Code: impl.ErrMany})
	}
	// A fault of the op is asked ahead of what is there.
	askStore(t, "text ahead of none", impl.ApplyOp(store(1), eraseOp("In")), impl.StoreResult{Code: impl.ErrText})
	askStore(t, "range ahead of none", impl.ApplyOp(store(1), flagOp("in", 0, 0)), impl.StoreResult{Code: impl.ErrRange})
	askStore(t, "many ahead of full", impl.ApplyOp(fullStore(), addOp("in", 0, 0, string(someBytes(401)))), impl.StoreResult{Code: impl.ErrMany})
	askStore(t, "range ahead of state", impl.ApplyOp(fullStore(), moveOp("in", "in", 0)), impl.StoreResult{Code: impl.ErrRange})
}

// wantApplyAll does one op behind the other.
func wantApplyAll(s impl.Store, list []impl.Op) impl.StoreResult {
	code := firstCode(asked{len(list) > 60, impl.ErrMany}, asked{wantStoreFault(s) != 0, wantStoreFault(s)})
	if code != impl.OK {
		return impl.StoreResult{Code: code}
	}
	for _, o := range list {
		done := wantApply(s, o)
		if done.Code != impl.OK {
			return impl.StoreResult{Code: done.Code}
		}
		s = done.Store
	}
	return impl.StoreResult{Store: s}
}

func TestApplyAll(t *testing.T) {
	start := store(1)
	made := []impl.Op{makeOp("in"), makeOp("old"), addOp("in", 1, 2, "a"), addOp("in", 8, 3, "b"), addOp("in", 0, 4, "c"), moveOp("in", "old", 1, 3), purgeOp("in"), flagOp("old", impl.ModeMore, 4, 2)}
	want := store(3, impl.Box{Name: "in", Validity: 1, Next: 4}, impl.Box{Name: "old", Validity: 2, Next: 3, Messages: []impl.Message{{Uid: 1, Flags: 1, Date: 2, Data: []byte("a")}, {Uid: 2, Flags: 4, Date: 4, Data: []byte("c")}}})
	askStore(t, "ordinary", impl.ApplyAll(start, made), impl.StoreResult{Store: want})
	askStore(t, "no Uids are told", impl.ApplyAll(want, []impl.Op{addOp("in", 0, 0, "")}), impl.StoreResult{Store: wantApply(want, addOp("in", 0, 0, "")).Store})
	for _, s := range someStores() {
		askStore(t, "no ops", impl.ApplyAll(s, nil), impl.StoreResult{Store: s})
		askStore(t, "a list of nothing", impl.ApplyAll(s, []impl.Op{}), impl.StoreResult{Store: s})
	}
	for n := range 70 {
		var list []impl.Op
		for i := range n {
			list = append(list, []impl.Op{makeOp("a"), eraseOp("a")}[i%2])
		}
		askStore(t, fmt.Sprint(n, " ops"), impl.ApplyAll(start, list), wantApplyAll(start, list))
	}
	// 60 ops which all do something to one store.
	turns := slices.Repeat([]impl.Op{flagOp("old", impl.ModeSet, 3, 1), flagOp("old", impl.ModeLess, 1, 1, 2)}, 30)
	askStore(t, "60", impl.ApplyAll(want, turns), wantApplyAll(want, turns))
	askStore(t, "61", impl.ApplyAll(want, append(turns, purgeOp("in"))), impl.StoreResult{Code: impl.ErrMany})
	for _, wrong := range []impl.Op{{}, makeOp("In"), makeOp("in"), eraseOp("none"), moveOp("in", "in"), flagOp("in", 4, 0), flagOp("in", 1, 0, 1, 2, 3, 4, 5, 6, 7), copyOp("in", "none")} {
		for place := 2; place <= len(made); place++ {
			list := slices.Insert(slices.Clone(made), place, wrong)
			got := impl.ApplyAll(start, list)
			askStore(t, fmt.Sprint(opText(wrong), " at ", place), got, impl.StoreResult{Code: wantApply(want, wrong).Code})
			askStore(t, fmt.Sprint(opText(wrong), " at ", place), got, wantApplyAll(start, list))
		}
	}
	askStore(t, "the first op has a fault", impl.ApplyAll(start, slices.Insert(slices.Clone(made), 0, impl.Op{})), impl.StoreResult{Code: impl.ErrForm})
	askStore(t, "the first one that goes wrong counts", impl.ApplyAll(want, []impl.Op{eraseOp("none"), {}}), impl.StoreResult{Code: impl.ErrNone})
	askStore(t, "a fault behind one that goes wrong", impl.ApplyAll(want, []impl.Op{moveOp("in", "in"), makeOp("In")}), impl.StoreResult{Code: impl.ErrState})
}

// anyOp is drawn from a seed that is told, so that each run asks the same.
func anyOp(draw *rand.Rand) impl.Op {
	names := []string{"in", "old", "z", "new"}
	name, to := names[draw.Intn(4)], names[draw.Intn(4)]
	var uids []int64
	for uid := int64(1); uid <= 60 && len(uids) < 6; uid++ {
		if draw.Intn(4) == 0 {
			uids = append(uids, uid)
		}
	}
	switch draw.Intn(12) {
	case 0, 1:
		return makeOp(name)
	case 2:
		return eraseOp(name)
	case 3, 4, 5, 6:
		return addOp(name, draw.Int63n(16), draw.Int63n(10000), fmt.Sprint("\n", draw.Int63()))
	case 7:
		return flagOp(name, draw.Int63n(3)+1, draw.Int63n(16), uids...)
	case 8:
		return copyOp(name, to, uids...)
	case 9, 10:
		return moveOp(name, to, uids...)
	}
	return purgeOp(name)
}

func TestWhateverIsDoneTheStoreHasNoFaultAndNoUidComesAgain(t *testing.T) {
	type letter struct{ validity, uid int64 }
	for seed := range int64(40) {
		draw := rand.New(rand.NewSource(seed))
		s, done := store(1), map[int64]int{}
		once := map[letter]bool{}
		var all []impl.Op
		for range 400 {
			o := anyOp(draw)
			got := impl.ApplyOp(s, o)
			askStore(t, opText(o), got, wantApply(s, o))
			if got.Code != impl.OK {
				continue
			}
			askCode(t, opText(o), impl.StoreFault(got.Store), impl.OK)
			before, after := lettersOf(s), lettersOf(got.Store)
			for at := range after {
				key := letter{at[0], at[1]}
				if _, wasThere := before[at]; !wasThere && once[key] {
					t.Errorf("%v: Uid %d of validity %d comes again", opText(o), at[1], at[0])
				}
				once[key] = true
			}
			all = append(all, o)
			done[o.Kind]++
			s = got.Store
		}
		if len(done) != 7 {
			t.Errorf("seed %d: only Kinds %v were done", seed, slices.Sorted(maps.Keys(done)))
		}
		for from := 0; from+60 < len(all); from += 60 {
			start := impl.Store{Validity: 1}
			for _, o := range all[:from] {
				start = impl.ApplyOp(start, o).Store
			}
			askStore(t, "all of them", impl.ApplyAll(start, all[from:from+60]), wantApplyAll(start, all[from:from+60]))
		}
	}
}

// lettersOf are all messages of a store by the Validity of their mailbox and their Uid.
func lettersOf(s impl.Store) map[[2]int64]impl.Message {
	all := map[[2]int64]impl.Message{}
	for _, b := range s.Boxes {
		for _, m := range b.Messages {
			all[[2]int64{b.Validity, m.Uid}] = m
		}
	}
	return all
}

func TestWhatWasMovedIsThereAndNoMoreHere(t *testing.T) {
	for _, s := range opStores() {
		for _, o := range opsForStores() {
			got := impl.ApplyOp(s, o)
			if o.Kind != impl.OpMove || got.Code != impl.OK {
				continue
			}
			here, to := got.Store.Boxes[impl.BoxOf(s, o.Box).Value], got.Store.Boxes[impl.BoxOf(s, o.To).Value]
			for _, uid := range o.Uids {
				askInt(t, opText(o), impl.SequenceOf(here, uid), impl.ErrNone, 0)
			}
			was := s.Boxes[impl.BoxOf(s, o.Box).Value]
			if len(was.Messages)-len(here.Messages) != len(got.Uids) {
				t.Errorf("%s: %d are told, %d were there, %d are", opText(o), len(got.Uids), len(was.Messages), len(here.Messages))
			}
			told := slices.DeleteFunc(slices.Clone(was.Messages), func(m impl.Message) bool { return !slices.Contains(o.Uids, m.Uid) })
			for i, uid := range got.Uids {
				at := impl.SequenceOf(to, uid)
				askCode(t, opText(o), at.Code, impl.OK)
				if m := to.Messages[at.Value-1]; string(m.Data) != string(told[i].Data) || m.Flags != told[i].Flags || m.Date != told[i].Date {
					t.Errorf("%s: got %v, want %v", opText(o), m, told[i])
				}
			}
		}
	}
}
