package tests

import (
	"fmt"
	"maps"
	"math"
	"slices"
	"strings"
	"testing"

	"loop.example/g00447/impl"
)

func makeOp(name string) impl.Op  { return impl.Op{Kind: impl.OpMake, Box: name} }
func eraseOp(name string) impl.Op { return impl.Op{Kind: impl.OpErase, Box: name} }
func purgeOp(name string) impl.Op { return impl.Op{Kind: impl.OpPurge, Box: name} }

func addOp(name string, flags, date int64, data string) impl.Op {
	return impl.Op{Kind: impl.OpAdd, Box: name, Flags: flags, Date: date, Data: []byte(data)}
}

func flagOp(name string, mode, flags int64, uids ...int64) impl.Op {
	return impl.Op{Kind: impl.OpFlag, Box: name, Mode: mode, Flags: flags, Uids: uids}
}

func copyOp(name, to string, uids ...int64) impl.Op {
	return impl.Op{Kind: impl.OpCopy, Box: name, To: to, Uids: uids}
}

func moveOp(name, to string, uids ...int64) impl.Op {
	return impl.Op{Kind: impl.OpMove, Box: name, To: to, Uids: uids}
}

// someOps are one of each Kind, with all that its Kind has.
func someOps() []impl.Op {
	return []impl.Op{
		makeOp("new"), eraseOp("in"), addOp("in", 9, 77, "data"), flagOp("in", impl.ModeMore, 6, 1, 4),
		copyOp("in", "old", 1, 4), moveOp("in", "old", 1, 4), purgeOp("in"),
	}
}

// things are what an op can have beside its Kind and its Box, each of them told by itself.
func things() map[string]func(o *impl.Op) {
	return map[string]func(o *impl.Op){
		"To":    func(o *impl.Op) { o.To = "old" },
		"Uids":  func(o *impl.Op) { o.Uids = []int64{1} },
		"Mode":  func(o *impl.Op) { o.Mode = impl.ModeSet },
		"Flags": func(o *impl.Op) { o.Flags = 1 },
		"Date":  func(o *impl.Op) { o.Date = 1 },
		"Data":  func(o *impl.Op) { o.Data = []byte("a") },
	}
}

// thingsOfKind are written out from the document, a line a Kind.
var thingsOfKind = map[int64][]string{
	impl.OpMake:  nil,
	impl.OpErase: nil,
	impl.OpAdd:   {"Flags", "Date", "Data"},
	impl.OpFlag:  {"Uids", "Mode", "Flags"},
	impl.OpCopy:  {"To", "Uids"},
	impl.OpMove:  {"To", "Uids"},
	impl.OpPurge: nil,
}

func thingsOf(o impl.Op) []string {
	var list []string
	for what, isThere := range map[string]bool{"To": o.To != "", "Uids": len(o.Uids) != 0, "Mode": o.Mode != 0, "Flags": o.Flags != 0, "Date": o.Date != 0, "Data": len(o.Data) != 0} {
		if isThere {
			list = append(list, what)
		}
	}
	return list
}

func wantOpFault(o impl.Op) int64 {
	own, isKind := thingsOfKind[o.Kind]
	isForeign := slices.ContainsFunc(thingsOf(o), func(what string) bool { return !slices.Contains(own, what) })
	hasNoMode := slices.Contains(own, "Mode") && isOut(o.Mode, 1, 3)
	return firstCode(
		asked{!isKind || isForeign, impl.ErrForm},
		asked{!boxNames.MatchString(o.Box), impl.ErrText},
		asked{slices.Contains(own, "To") && !boxNames.MatchString(o.To), impl.ErrText},
		asked{len(o.Uids) > 6, impl.ErrMany},
		asked{!doRise(o.Uids) || hasNoMode || isOut(o.Flags, 0, 15) || isOut(o.Date, 0, 9999), impl.ErrRange},
		asked{len(o.Data) > 400, impl.ErrMany})
}

func doRise(uids []int64) bool {
	for i, uid := range uids {
		if isOut(uid, 1, 999) || i > 0 && uids[i-1] >= uid {
			return false
		}
	}
	return true
}

func TestOpsOfEachKind(t *testing.T) {
	for _, o := range someOps() {
		askCode(t, fmt.Sprint(o), impl.OpFault(o), impl.OK)
	}
	for kind := int64(-3); kind <= 20; kind++ {
		want := int64(impl.ErrForm)
		if kind >= 1 && kind <= 4 || kind == 7 {
			want = impl.OK
		}
		o := impl.Op{Kind: kind, Box: "in"}
		if kind == impl.OpFlag {
			o.Mode = impl.ModeSet
		}
		if kind == impl.OpCopy || kind == impl.OpMove {
			o.To, want = "old", impl.OK
		}
		askCode(t, fmt.Sprint("Kind ", kind), impl.OpFault(o), want)
	}
	for _, kind := range []int64{math.MinInt64, 1 << 32, 1<<32 + 1, math.MaxInt64} {
		askCode(t, fmt.Sprint("Kind ", kind), impl.OpFault(impl.Op{Kind: kind, Box: "in"}), impl.ErrForm)
	}
	askCode(t, "nothing", impl.OpFault(impl.Op{}), impl.ErrForm)
}

func TestOpsThatHaveWhatTheirKindHasNot(t *testing.T) {
	for _, o := range someOps() {
		for what, put := range things() {
			changed := o
			put(&changed)
			want := int64(impl.ErrForm)
			if slices.Contains(thingsOfKind[o.Kind], what) {
				want = impl.OK
			}
			askCode(t, fmt.Sprint("Kind ", o.Kind, " with ", what), impl.OpFault(changed), want)
			// What is wrong besides is asked later.
			changed.Box = "In"
			if want == impl.OK {
				want = impl.ErrText
			}
			askCode(t, fmt.Sprint("Kind ", o.Kind, " with ", what, " and a wrong Box"), impl.OpFault(changed), want)
		}
	}
	// What its kind has not is that also where it is out of bounds.
	for _, o := range []impl.Op{makeOp("in"), eraseOp("in"), purgeOp("in"), copyOp("in", "old"), moveOp("in", "old")} {
		for _, n := range []int64{math.MinInt64, -1, 16, 10000, math.MaxInt64} {
			mode, flags, date := o, o, o
			mode.Mode, flags.Flags, date.Date = n, n, n
			for _, changed := range []impl.Op{mode, flags, date} {
				askCode(t, fmt.Sprint(changed), impl.OpFault(changed), impl.ErrForm)
			}
		}
	}
	none := impl.Op{Kind: impl.OpMake, Box: "in", Uids: []int64{}, Data: []byte{}}
	askCode(t, "lists of nothing", impl.OpFault(none), impl.OK)
}

func TestNamesOfOps(t *testing.T) {
	names := []string{"", "a", "z", "abcdefgh", "abcdefghi", "In", "iN", "in1", " in", "in ", "in\n", "ä", "\x00", "\xff", "`", "{", strings.Repeat("a", 1<<16)}
	for _, name := range names {
		want := int64(impl.OK)
		if !boxNames.MatchString(name) {
			want = impl.ErrText
		}
		for _, o := range someOps() {
			o.Box = name
			askCode(t, fmt.Sprintf("Kind %d, Box %.12q", o.Kind, name), impl.OpFault(o), want)
			if o.To != "" {
				o.Box, o.To = "in", name
				askCode(t, fmt.Sprintf("Kind %d, To %.12q", o.Kind, name), impl.OpFault(o), want)
				o.Box = name
				askCode(t, fmt.Sprintf("Kind %d, both %.12q", o.Kind, name), impl.OpFault(o), want)
			}
		}
	}
}

func TestNumbersOfOps(t *testing.T) {
	uids := [][]int64{
		nil, {}, {0}, {1}, {999}, {1000}, {-1}, {math.MinInt64}, {math.MaxInt64}, {1, 2}, {2, 1}, {2, 2}, {1, 999}, {1, 1000}, {0, 1}, {1, 3, 2}, {1, 3, 3}, {999, 999}, {998, 999, 1000},
		{1, 2, 3, 4, 5, 6}, {994, 995, 996, 997, 998, 999}, {1, 2, 3, 4, 5, 5}, {1, 2, 3, 4, 6, 5}, {1, 2, 3, 4, 5, 6, 7}, {1, 2, 3, 4, 5, 6, 1000}, {0, 2, 3, 4, 5, 6, 7}, {7, 6, 5, 4, 3, 2, 1}, times(7, 1), times(1<<12, -1),
	}
	numbers := []int64{math.MinInt64, -1, 0, 1, 2, 3, 4, 15, 16, 9999, 10000, 1<<32 + 1, math.MaxInt64}
	faults := map[int64]int{}
	ask := func(o impl.Op) {
		t.Helper()
		got := impl.OpFault(o)
		askCode(t, fmt.Sprintf("%d %q %v %d %d %d %d", o.Kind, o.To, o.Uids[:min(len(o.Uids), 9)], o.Mode, o.Flags, o.Date, len(o.Data)), got, wantOpFault(o))
		faults[got]++
	}
	for _, list := range uids {
		for _, name := range []string{"in", "In"} {
			ask(copyOp("in", name, list...))
			ask(moveOp(name, "old", list...))
			for _, mode := range numbers {
				for _, flags := range numbers {
					ask(flagOp(name, mode, flags, list...))
				}
			}
		}
	}
	for _, flags := range numbers {
		for _, date := range numbers {
			for _, size := range []int{0, 1, 399, 400, 401, 1 << 16} {
				ask(addOp("in", flags, date, string(someBytes(size))))
				ask(addOp("", flags, date, string(someBytes(size))))
			}
		}
	}
	for _, code := range []int64{impl.OK, impl.ErrText, impl.ErrRange, impl.ErrMany} {
		if faults[code] == 0 {
			t.Errorf("no op has the code %d", code)
		}
	}
}

func TestOpFaultByHand(t *testing.T) {
	list := []struct {
		what string
		op   impl.Op
		code int64
	}{
		{"no Uids", copyOp("in", "old"), impl.OK},
		{"6 Uids", moveOp("in", "old", 1, 2, 3, 4, 5, 999), impl.OK},
		{"7 Uids", moveOp("in", "old", 1, 2, 3, 4, 5, 6, 7), impl.ErrMany},
		{"7 Uids of which one is out of range", flagOp("in", impl.ModeSet, 0, 1, 2, 3, 4, 5, 6, 1000), impl.ErrMany},
		{"6 Uids of which one is out of range", flagOp("in", impl.ModeSet, 0, 1, 2, 3, 4, 5, 1000), impl.ErrRange},
		{"7 Uids beside a Mode out of range", flagOp("in", 4, 0, 1, 2, 3, 4, 5, 6, 7), impl.ErrMany},
		{"7 Uids beside Flags out of range", flagOp("in", 1, 16, 1, 2, 3, 4, 5, 6, 7), impl.ErrMany},
		{"text ahead of many", flagOp("In", 1, 0, 1, 2, 3, 4, 5, 6, 7), impl.ErrText},
		{"form ahead of text", impl.Op{Kind: impl.OpMake, To: "old"}, impl.ErrForm},
		{"form ahead of many", impl.Op{Kind: impl.OpMake, Box: "in", Uids: times(7, 1)}, impl.ErrForm},
		{"form ahead of range", impl.Op{Kind: impl.OpPurge, Box: "in", Flags: 16}, impl.ErrForm},
		{"no To", impl.Op{Kind: impl.OpCopy, Box: "in"}, impl.ErrText},
		{"a To of which Box is none", impl.Op{Kind: impl.OpCopy, To: "in"}, impl.ErrText},
		{"Box and To the same", moveOp("in", "in", 1), impl.OK},
		{"a To out of form beside Uids out of range", copyOp("in", "Old", 0), impl.ErrText},
		{"no Mode", flagOp("in", 0, 1, 1), impl.ErrRange},
		{"flags of nothing", flagOp("in", impl.ModeLess, 0), impl.OK},
		{"a message of nothing", addOp("in", 0, 0, ""), impl.OK},
		{"the most of a message", addOp("in", 15, 9999, string(someBytes(400))), impl.OK},
		{"range ahead of many bytes", addOp("in", 16, 0, string(someBytes(401))), impl.ErrRange},
		{"range of the Date ahead of many bytes", addOp("in", 0, -1, string(someBytes(401))), impl.ErrRange},
		{"many bytes", addOp("in", 0, 0, string(someBytes(401))), impl.ErrMany},
	}
	for _, l := range list {
		askCode(t, l.what, impl.OpFault(l.op), l.code)
	}
}

// otherOps each differ from wholeOp in one thing alone.
func otherOps() map[string]impl.Op {
	changes := map[string]func(o *impl.Op){
		"Kind":            func(o *impl.Op) { o.Kind++ },
		"Box":             func(o *impl.Op) { o.Box = "im" },
		"no Box":          func(o *impl.Op) { o.Box = "" },
		"a large Box":     func(o *impl.Op) { o.Box = "In" },
		"To":              func(o *impl.Op) { o.To = "odd" },
		"no To":           func(o *impl.Op) { o.To = "" },
		"a Uid":           func(o *impl.Op) { o.Uids[1] += 1 << 32 },
		"the first Uid":   func(o *impl.Op) { o.Uids[0]-- },
		"a Uid less":      func(o *impl.Op) { o.Uids = o.Uids[:2] },
		"a Uid more":      func(o *impl.Op) { o.Uids = append(o.Uids, 0) },
		"no Uids":         func(o *impl.Op) { o.Uids = nil },
		"order of Uids":   func(o *impl.Op) { o.Uids[0], o.Uids[1] = o.Uids[1], o.Uids[0] },
		"Mode":            func(o *impl.Op) { o.Mode-- },
		"Flags":           func(o *impl.Op) { o.Flags++ },
		"Date":            func(o *impl.Op) { o.Date = -o.Date },
		"a byte":          func(o *impl.Op) { o.Data[2]++ },
		"a byte less":     func(o *impl.Op) { o.Data = o.Data[:3] },
		"a byte more":     func(o *impl.Op) { o.Data = append(o.Data, 0) },
		"no Data":         func(o *impl.Op) { o.Data = nil },
		"Box and To swap": func(o *impl.Op) { o.Box, o.To = o.To, o.Box },
	}
	ops := map[string]impl.Op{}
	for what, change := range changes {
		o := wholeOp()
		change(&o)
		ops[what] = o
	}
	return ops
}

// wholeOp has everything that an op can have, whatever its Kind has.
func wholeOp() impl.Op {
	return impl.Op{Kind: 3, Box: "in", To: "old", Uids: []int64{1, 4, 7}, Mode: 2, Flags: 5, Date: 77, Data: []byte("data")}
}

func TestSameOps(t *testing.T) {
	whole := []impl.Op{wholeOp()}
	askBool(t, "the same", impl.SameOps(whole, []impl.Op{wholeOp()}), true)
	others := otherOps()
	for what, o := range others {
		for _, list := range [][]impl.Op{{o}, {o, wholeOp()}, {wholeOp(), o}, {wholeOp(), o, wholeOp()}} {
			same := slices.Repeat(whole, len(list))
			askBool(t, what, impl.SameOps(list, same), false)
			askBool(t, what, impl.SameOps(same, list), false)
			askBool(t, what, impl.SameOps(list, slices.Clone(list)), true)
		}
	}
	rows := [][]impl.Op{nil, whole, {wholeOp(), wholeOp()}, make([]impl.Op, 1), make([]impl.Op, 61), someOps(), someOps()[1:]}
	for _, what := range slices.Sorted(maps.Keys(others)) {
		rows = append(rows, []impl.Op{others[what]})
	}
	for i, a := range rows {
		for k, b := range rows {
			askBool(t, fmt.Sprint(i, k), impl.SameOps(a, b), i == k)
		}
	}
}

func TestOpsOfNothingAreTheSameAsNil(t *testing.T) {
	askBool(t, "lists", impl.SameOps(nil, []impl.Op{}), true)
	askBool(t, "lists", impl.SameOps([]impl.Op{}, nil), true)
	askBool(t, "nil", impl.SameOps(nil, nil), true)
	askBool(t, "an op of nothing", impl.SameOps(nil, make([]impl.Op, 1)), false)
	askBool(t, "an op of nothing", impl.SameOps(make([]impl.Op, 1), nil), false)
	askBool(t, "Uids and Data", impl.SameOps([]impl.Op{{Uids: []int64{}, Data: []byte{}}}, []impl.Op{{}}), true)
	askBool(t, "Uids and Data", impl.SameOps([]impl.Op{{}}, []impl.Op{{Uids: []int64{}, Data: []byte{}}}), true)
}
