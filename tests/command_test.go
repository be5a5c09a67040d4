package tests

import (
	"fmt"
	"maps"
	"math"
	"regexp"
	"slices"
	"strings"
	"testing"

	"loop.example/g00447/impl"
)

// someCmds are one of each Kind, in their order, with all that its Kind has.
func someCmds() []impl.Cmd {
	return []impl.Cmd{
		{Tag: "a", Kind: impl.CmdNoop},
		{Tag: "a1", Kind: impl.CmdMake, Name: "new"},
		{Tag: "zz9", Kind: impl.CmdErase, Name: "in"},
		{Tag: "0000", Kind: impl.CmdSelect, Name: "abcdefgh"},
		{Tag: "b", Kind: impl.CmdClose},
		addCmd("in", 9, 77, "data"),
		flagCmd(set(1, 0, 7, 5), impl.ModeMore, 6),
		{Tag: "e", Kind: impl.CmdCopy, Ranges: set(1, 1, 3, 3), Name: "old"},
		{Tag: "f", Kind: impl.CmdMove, Ranges: set(0, 0), Name: "z"},
		{Tag: "g", Kind: impl.CmdPurge},
		fetchCmd(impl.WhatText, 1, 2),
		searchCmd(notOf(flagTerm(1))),
		sortCmd(impl.KeyDate, true, andOf(subjectTerm("ä"), allTerm())),
		{Tag: "k", Kind: impl.CmdCompare, Cmp: impl.CmpAscii},
	}
}

func addCmd(name string, flags, date int64, data string) impl.Cmd {
	return impl.Cmd{Tag: "c", Kind: impl.CmdAdd, Name: name, Flags: flags, Date: date, Data: []byte(data)}
}

func flagCmd(ranges []impl.Range, mode, flags int64) impl.Cmd {
	return impl.Cmd{Tag: "d", Kind: impl.CmdFlag, Ranges: ranges, Mode: mode, Flags: flags}
}

func fetchCmd(what int64, path ...int64) impl.Cmd {
	return impl.Cmd{Tag: "h", Kind: impl.CmdFetch, Ranges: set(2, 0), What: what, Path: path}
}

func searchCmd(terms []impl.Term) impl.Cmd {
	return impl.Cmd{Tag: "i", Kind: impl.CmdSearch, Terms: terms}
}

func sortCmd(key int64, back bool, terms []impl.Term) impl.Cmd {
	return impl.Cmd{Tag: "j", Kind: impl.CmdSort, Key: key, Back: back, Terms: terms}
}

// cmdThings are what a command can have beside its Tag and its Kind, each of them told by itself.
func cmdThings() map[string]func(c *impl.Cmd) {
	return map[string]func(c *impl.Cmd){
		"Name":   func(c *impl.Cmd) { c.Name = "old" },
		"Ranges": func(c *impl.Cmd) { c.Ranges = set(1, 1) },
		"Mode":   func(c *impl.Cmd) { c.Mode = 1 },
		"Flags":  func(c *impl.Cmd) { c.Flags = 1 },
		"Date":   func(c *impl.Cmd) { c.Date = 1 },
		"Data":   func(c *impl.Cmd) { c.Data = []byte("a") },
		"What":   func(c *impl.Cmd) { c.What = impl.WhatBody },
		"Path":   func(c *impl.Cmd) { c.Path = []int64{1} },
		"Key":    func(c *impl.Cmd) { c.Key = 1 },
		"Back":   func(c *impl.Cmd) { c.Back = true },
		"Terms":  func(c *impl.Cmd) { c.Terms = allTerm() },
		"Cmp":    func(c *impl.Cmd) { c.Cmp = 1 },
	}
}

// thingsOfCmdKind are written out from the document, a line a Kind.
var thingsOfCmdKind = map[int64][]string{
	impl.CmdNoop:    {},
	impl.CmdMake:    {"Name"},
	impl.CmdErase:   {"Name"},
	impl.CmdSelect:  {"Name"},
	impl.CmdClose:   {},
	impl.CmdAdd:     {"Name", "Flags", "Date", "Data"},
	impl.CmdFlag:    {"Ranges", "Mode", "Flags"},
	impl.CmdCopy:    {"Ranges", "Name"},
	impl.CmdMove:    {"Ranges", "Name"},
	impl.CmdPurge:   {},
	impl.CmdFetch:   {"Ranges", "What", "Path"},
	impl.CmdSearch:  {"Terms"},
	impl.CmdSort:    {"Key", "Back", "Terms"},
	impl.CmdCompare: {"Cmp"},
}

// ownThings are what the document lets a command have, by its Kind and its What.
func ownThings(c impl.Cmd) []string {
	if c.Kind == impl.CmdFetch && isOut(c.What, 3, 5) {
		return []string{"Ranges", "What"}
	}
	return thingsOfCmdKind[c.Kind]
}

func hasCmdThings(c impl.Cmd) []string {
	var list []string
	for what, isThere := range map[string]bool{
		"Name": c.Name != "", "Ranges": len(c.Ranges) != 0, "Mode": c.Mode != 0, "Flags": c.Flags != 0, "Date": c.Date != 0, "Data": len(c.Data) != 0,
		"What": c.What != 0, "Path": len(c.Path) != 0, "Key": c.Key != 0, "Back": c.Back, "Terms": len(c.Terms) != 0, "Cmp": c.Cmp != 0,
	} {
		if isThere {
			list = append(list, what)
		}
	}
	return list
}

var cmdTags = regexp.MustCompile(`\A[a-z0-9]{1,4}\z`)

func isWrongPath(path []int64) bool {
	return len(path) > 3 || slices.ContainsFunc(path, func(n int64) bool { return isOut(n, 1, 9) })
}

func wantCmdFault(c impl.Cmd) int64 {
	_, isKind := thingsOfCmdKind[c.Kind]
	own := ownThings(c)
	has := func(thing string) bool { return slices.Contains(own, thing) }
	codes := []asked{
		{!cmdTags.MatchString(c.Tag), impl.ErrText},
		{!isKind || isMore(hasCmdThings(c), own), impl.ErrForm},
		{has("Name") && !boxNames.MatchString(c.Name), impl.ErrText},
	}
	if has("Ranges") {
		codes = append(codes, asked{wantRangesFault(c.Ranges) != 0, wantRangesFault(c.Ranges)})
	}
	codes = append(codes,
		asked{has("Mode") && isOut(c.Mode, 1, 3), impl.ErrRange}, asked{has("Flags") && isOut(c.Flags, 0, 15), impl.ErrRange},
		asked{has("Date") && isOut(c.Date, 0, 9999), impl.ErrRange}, asked{has("Data") && isOut(int64(len(c.Data)), 1, 400), impl.ErrRange},
		asked{has("What") && isOut(c.What, 1, 7), impl.ErrRange}, asked{has("Path") && isWrongPath(c.Path), impl.ErrRange},
		asked{has("Key") && isOut(c.Key, 1, 4), impl.ErrRange}, asked{has("Cmp") && isOut(c.Cmp, 1, 3), impl.ErrRange})
	if has("Terms") {
		codes = append(codes, asked{wantTermsFault(c.Terms) != 0, wantTermsFault(c.Terms)})
	}
	return firstCode(codes...)
}

func askCmdFault(t *testing.T, c impl.Cmd) int64 {
	t.Helper()
	want := wantCmdFault(c)
	if got := impl.CmdFault(c); got != want {
		t.Errorf("%.300v: got code %d, want code %d", c, got, want)
	}
	return want
}

func TestCommandsOfEachKind(t *testing.T) {
	for i, c := range someCmds() {
		askCode(t, fmt.Sprint(c), impl.CmdFault(c), impl.OK)
		if c.Kind != int64(i)+1 {
			t.Errorf("%v is of the kind %d", c, c.Kind)
		}
	}
	// What has nothing but its Tag and its Kind.
	for kind, want := range map[int64]int64{
		impl.CmdNoop: impl.OK, impl.CmdMake: impl.ErrText, impl.CmdErase: impl.ErrText, impl.CmdSelect: impl.ErrText, impl.CmdClose: impl.OK, impl.CmdAdd: impl.ErrText, impl.CmdFlag: impl.ErrMany,
		impl.CmdCopy: impl.ErrText, impl.CmdMove: impl.ErrText, impl.CmdPurge: impl.OK, impl.CmdFetch: impl.ErrMany, impl.CmdSearch: impl.ErrMany, impl.CmdSort: impl.ErrRange, impl.CmdCompare: impl.ErrRange,
	} {
		askCode(t, fmt.Sprint("kind ", kind), impl.CmdFault(impl.Cmd{Tag: "a", Kind: kind}), want)
	}
	for _, kind := range []int64{math.MinInt64, math.MinInt64 + 1, -1 << 32, -14, -2, -1, 0, 15, 16, 99, 256 + 1, 1 << 32, 1<<32 + 1, math.MaxInt64 - 1, math.MaxInt64} {
		askCode(t, fmt.Sprint("kind ", kind), impl.CmdFault(impl.Cmd{Tag: "a", Kind: kind}), impl.ErrForm)
		for _, c := range someCmds() {
			c.Kind = kind
			askCode(t, fmt.Sprint(c), impl.CmdFault(c), impl.ErrForm)
		}
	}
	askCode(t, "nothing", impl.CmdFault(impl.Cmd{}), impl.ErrText)
}

func TestTagsOfCommands(t *testing.T) {
	for _, tag := range []string{"a", "z", "0", "9", "a1", "1a", "abc", "zzzz", "0000", "9999", "a0z9", "noop", "ok", "no", "bad"} {
		for _, c := range someCmds() {
			c.Tag = tag
			askCode(t, fmt.Sprintf("kind %d, Tag %q", c.Kind, tag), impl.CmdFault(c), impl.OK)
		}
	}
	for _, tag := range noTags() {
		for _, c := range append(someCmds(), impl.Cmd{}, impl.Cmd{Kind: 15}, impl.Cmd{Kind: impl.CmdNoop, Name: "in"}, flagCmd(ranges(9), 0, 16)) {
			c.Tag = tag
			askCode(t, fmt.Sprintf("kind %d, Tag %.20q", c.Kind, tag), impl.CmdFault(c), impl.ErrText)
		}
	}
	for b := range 256 {
		letter := string([]byte{byte(b)})
		for _, tag := range []string{letter, "a" + letter, letter + "a", "abc" + letter, "a" + letter + "bc"} {
			askCmdFault(t, impl.Cmd{Tag: tag, Kind: impl.CmdNoop})
		}
	}
}

// noTags have no letter, too many, or one that a Tag has not.
func noTags() []string {
	return []string{"", " ", "a b", " a", "a ", "abcde", "00000", "abcd ", "A", "aB", "Abcd", "abcD", "*", "-", "a-b", "a_b", "{", "`", "a{", "/", ":", "a:", "\x00", "a\x00", "a\n", "\na", "a\t", "ä", "é1", "\xff", "a\xff", "١", "+", "a.", strings.Repeat("a", 1<<16)}
}

func TestCommandsThatHaveWhatTheirKindHasNot(t *testing.T) {
	for _, c := range someCmds() {
		for what, put := range cmdThings() {
			changed := c
			put(&changed)
			want := int64(impl.ErrForm)
			if slices.Contains(thingsOfCmdKind[c.Kind], what) {
				want = impl.OK
			}
			askCode(t, fmt.Sprint("kind ", c.Kind, " with ", what), impl.CmdFault(changed), want)
		}
	}
	// What its kind has not is that also where it is out of bounds.
	for _, c := range someCmds() {
		for _, n := range []int64{math.MinInt64, -1, 5, 16, 10000, math.MaxInt64} {
			for what, put := range map[string]func(c *impl.Cmd){
				"Mode": func(c *impl.Cmd) { c.Mode = n }, "Flags": func(c *impl.Cmd) { c.Flags = n }, "Date": func(c *impl.Cmd) { c.Date = n }, "What": func(c *impl.Cmd) { c.What, c.Path = n, nil },
				"Key": func(c *impl.Cmd) { c.Key = n }, "Cmp": func(c *impl.Cmd) { c.Cmp = n }, "Path": func(c *impl.Cmd) { c.Path = []int64{n} }, "Ranges": func(c *impl.Cmd) { c.Ranges = set(n, -n) },
			} {
				changed := c
				put(&changed)
				if !slices.Contains(thingsOfCmdKind[c.Kind], what) {
					askCode(t, fmt.Sprint("kind ", c.Kind, " with ", what, " ", n), impl.CmdFault(changed), impl.ErrForm)
				}
				askCmdFault(t, changed)
			}
		}
	}
	for _, c := range []impl.Cmd{{Tag: "a", Kind: impl.CmdNoop}, {Tag: "a", Kind: impl.CmdClose}, {Tag: "a", Kind: impl.CmdPurge}} {
		c.Ranges, c.Data, c.Path, c.Terms = []impl.Range{}, []byte{}, []int64{}, []impl.Term{}
		askCode(t, "lists of nothing", impl.CmdFault(c), impl.OK)
		c.Data = make([]byte, 1)
		askCode(t, "a byte 0", impl.CmdFault(c), impl.ErrForm)
	}
	askCode(t, "a search with Back", impl.CmdFault(impl.Cmd{Tag: "a", Kind: impl.CmdSearch, Terms: allTerm(), Back: true}), impl.ErrForm)
	askCode(t, "a search with a Key", impl.CmdFault(impl.Cmd{Tag: "a", Kind: impl.CmdSearch, Terms: allTerm(), Key: 1}), impl.ErrForm)
	askCode(t, "a copy with a Mode", impl.CmdFault(impl.Cmd{Tag: "a", Kind: impl.CmdCopy, Ranges: set(1, 1), Name: "in", Mode: 1}), impl.ErrForm)
	askCode(t, "a flag with a Name", impl.CmdFault(impl.Cmd{Tag: "a", Kind: impl.CmdFlag, Ranges: set(1, 1), Name: "in", Mode: 1}), impl.ErrForm)
}

func TestNamesOfCommands(t *testing.T) {
	for _, name := range []string{"", "a", "z", "in", "abcdefgh", "abcdefghi", "In", "iN", "in1", "1", "0", " in", "in ", "i n", "in\n", "ä", "\x00", "\xff", "`", "{", "a-b", strings.Repeat("a", 1<<16)} {
		want := int64(impl.OK)
		if !boxNames.MatchString(name) {
			want = impl.ErrText
		}
		for _, c := range someCmds() {
			if c.Name != "" {
				c.Name = name
				askCode(t, fmt.Sprintf("kind %d, Name %.12q", c.Kind, name), impl.CmdFault(c), want)
			}
		}
	}
}

// cmdNumbers are around the bounds of all numbers that a command has.
var cmdNumbers = []int64{math.MinInt64, math.MinInt64 + 1, -1 << 32, -9999, -15, -1, 0, 1, 2, 3, 4, 5, 6, 7, 8, 9, 10, 14, 15, 16, 17, 99, 255, 256, 257, 999, 9998, 9999, 10000, 10001, 1 << 16, 1 << 32, 1<<32 + 1, math.MaxInt64 - 1, math.MaxInt64}

// askBounds asks with each number whether it is one of first to last.
func askBounds(t *testing.T, what string, first, last int64, with func(n int64) impl.Cmd) {
	t.Helper()
	for _, n := range cmdNumbers {
		want := int64(impl.OK)
		if n < first || n > last {
			want = impl.ErrRange
		}
		askCode(t, fmt.Sprint(what, " ", n), impl.CmdFault(with(n)), want)
		askCmdFault(t, with(n))
	}
}

func TestNumbersOfCommands(t *testing.T) {
	askBounds(t, "Mode", 1, 3, func(n int64) impl.Cmd { return flagCmd(set(1, 1), n, 0) })
	askBounds(t, "Flags of flag", 0, 15, func(n int64) impl.Cmd { return flagCmd(set(1, 1), impl.ModeLess, n) })
	askBounds(t, "Flags of add", 0, 15, func(n int64) impl.Cmd { return addCmd("in", n, 0, "a") })
	askBounds(t, "Date", 0, 9999, func(n int64) impl.Cmd { return addCmd("in", 0, n, "a") })
	askBounds(t, "What", 1, 7, func(n int64) impl.Cmd { return fetchCmd(n) })
	askBounds(t, "Key", 1, 4, func(n int64) impl.Cmd { return sortCmd(n, false, allTerm()) })
	askBounds(t, "Key with Back", 1, 4, func(n int64) impl.Cmd { return sortCmd(n, true, allTerm()) })
	askBounds(t, "Cmp", 1, 3, func(n int64) impl.Cmd { return impl.Cmd{Tag: "a", Kind: impl.CmdCompare, Cmp: n} })
	for _, what := range []int64{impl.WhatBody, impl.WhatBytes, impl.WhatText} {
		askBounds(t, "a number of a Path", 1, 9, func(n int64) impl.Cmd { return fetchCmd(what, n) })
		askBounds(t, "the second one", 1, 9, func(n int64) impl.Cmd { return fetchCmd(what, 9, n) })
		askBounds(t, "the third one", 1, 9, func(n int64) impl.Cmd { return fetchCmd(what, 1, 2, n) })
	}
	for _, size := range []int{0, 1, 2, 3, 4, 399, 400, 401, 402, 1200, 1600, 1 << 16} {
		want := int64(impl.OK)
		if size < 1 || size > 400 {
			want = impl.ErrRange
		}
		askCode(t, fmt.Sprint(size, " bytes"), impl.CmdFault(addCmd("in", 15, 9999, string(someBytes(size)))), want)
		askCode(t, fmt.Sprint(size, " bytes 0"), impl.CmdFault(addCmd("in", 0, 0, string(make([]byte, size)))), want)
	}
	bare := addCmd("in", 1, 1, "")
	bare.Data = nil
	askCode(t, "no Data", impl.CmdFault(bare), impl.ErrRange)
}

func TestPathsOfCommands(t *testing.T) {
	paths := [][]int64{nil, {}, {1}, {9}, {1, 1}, {9, 1}, {1, 2, 3}, {9, 9, 9}}
	wrong := [][]int64{{0}, {10}, {-1}, {0, 1}, {1, 0}, {1, 10}, {1, 2, 0}, {1, 2, 10}, {1, 2, 3, 4}, {1, 1, 1, 1}, {0, 0, 0, 0}, {1, 2, 3, 0}, {math.MinInt64}, {math.MaxInt64}, {1, math.MaxInt64}, {1<<32 + 1}, times(9, 1), times(1<<16, 1)}
	for _, what := range cmdNumbers {
		hasPath := what == impl.WhatBody || what == impl.WhatBytes || what == impl.WhatText
		isWhat := what >= 1 && what <= 7
		for _, path := range slices.Concat(paths, wrong) {
			want := int64(impl.OK)
			switch {
			case !hasPath && len(path) > 0:
				want = impl.ErrForm
			case !isWhat || slices.ContainsFunc(wrong, func(one []int64) bool { return slices.Equal(one, path) }):
				want = impl.ErrRange
			}
			askCode(t, fmt.Sprintf("What %d with the Path %.60v", what, path), impl.CmdFault(fetchCmd(what, path...)), want)
		}
	}
	for what := int64(0); what <= 8; what++ {
		eachPath(0, 10, 3, func(path []int64) { askCmdFault(t, fetchCmd(what, path...)) })
	}
}

// eachPath calls ask with every path of up to most numbers, each one first to last.
func eachPath(first, last int64, most int, ask func(path []int64)) {
	paths := [][]int64{nil}
	for range most + 1 {
		var longer [][]int64
		for _, path := range paths {
			ask(path)
			for n := first; n <= last; n++ {
				longer = append(longer, append(slices.Clone(path), n))
			}
		}
		paths = longer
	}
}

func TestSetsOfCommands(t *testing.T) {
	for _, list := range setArguments() {
		for _, c := range someCmds() {
			if len(c.Ranges) > 0 {
				c.Ranges = list
				askCode(t, fmt.Sprintf("kind %d, %.80v", c.Kind, list), impl.CmdFault(c), wantRangesFault(list))
			}
		}
	}
	askCode(t, "no range", impl.CmdFault(flagCmd([]impl.Range{}, 1, 0)), impl.ErrMany)
	askCode(t, "a star", impl.CmdFault(flagCmd(set(0, 0), 1, 0)), impl.OK)
	askCode(t, "the other way round", impl.CmdFault(flagCmd(set(9, 2), 1, 0)), impl.OK)
	askCode(t, "8 ranges", impl.CmdFault(flagCmd(ranges(8), 1, 0)), impl.OK)
	askCode(t, "9 ranges", impl.CmdFault(flagCmd(ranges(9), 1, 0)), impl.ErrMany)
	askCode(t, "1000", impl.CmdFault(flagCmd(set(1, 1000), 1, 0)), impl.ErrRange)
}

func TestTermsOfCommands(t *testing.T) {
	for _, terms := range termsArguments() {
		want := wantTermsFault(terms)
		askCode(t, fmt.Sprintf("a search for %.80v", terms), impl.CmdFault(searchCmd(terms)), want)
		askCode(t, fmt.Sprintf("a sort of %.80v", terms), impl.CmdFault(sortCmd(4, true, terms)), want)
		askCode(t, fmt.Sprintf("a sort of %.80v", terms), impl.CmdFault(sortCmd(1, false, terms)), want)
	}
	askCode(t, "no term", impl.CmdFault(searchCmd([]impl.Term{})), impl.ErrMany)
	askCode(t, "12 terms", impl.CmdFault(searchCmd(chain(12))), impl.OK)
	askCode(t, "13 terms", impl.CmdFault(searchCmd(chain(13))), impl.ErrMany)
	askCode(t, "two trees", impl.CmdFault(searchCmd(slices.Repeat(allTerm(), 2))), impl.ErrForm)
	askCode(t, "no flag", impl.CmdFault(searchCmd(flagTerm(16))), impl.ErrRange)
}

func TestWhichFaultOfACommandComesFirst(t *testing.T) {
	for i, by := range []struct {
		c    impl.Cmd
		want int64
	}{
		{impl.Cmd{Tag: "A", Kind: 15}, impl.ErrText},
		{impl.Cmd{Tag: "", Kind: impl.CmdNoop, Name: "in"}, impl.ErrText},
		{impl.Cmd{Tag: "a", Kind: 15, Name: "In"}, impl.ErrForm},
		// What its kind has not comes ahead of all else but the Tag.
		{impl.Cmd{Tag: "a", Kind: impl.CmdMake, Name: "In", Mode: 1}, impl.ErrForm},
		{impl.Cmd{Tag: "a", Kind: impl.CmdMake, Ranges: ranges(9)}, impl.ErrForm},
		{impl.Cmd{Tag: "a", Kind: impl.CmdFlag, Ranges: ranges(9), Mode: 9, Cmp: -1}, impl.ErrForm},
		{impl.Cmd{Tag: "a", Kind: impl.CmdSort, Key: 5, Date: 1}, impl.ErrForm},
		{impl.Cmd{Tag: "a", Kind: impl.CmdFetch, Ranges: ranges(9), What: impl.WhatSize, Path: []int64{0}}, impl.ErrForm},
		{impl.Cmd{Tag: "a", Kind: impl.CmdFetch, Ranges: set(1000, 1), What: 8, Path: []int64{1}}, impl.ErrForm},
		// The Name comes ahead of the set.
		{impl.Cmd{Tag: "a", Kind: impl.CmdCopy, Name: "In", Ranges: ranges(9)}, impl.ErrText},
		{impl.Cmd{Tag: "a", Kind: impl.CmdMove, Ranges: set(1000, 1)}, impl.ErrText},
		{impl.Cmd{Tag: "a", Kind: impl.CmdMove, Name: "in"}, impl.ErrMany},
		{impl.Cmd{Tag: "a", Kind: impl.CmdMove, Name: "in", Ranges: set(1000, 1)}, impl.ErrRange},
		{impl.Cmd{Tag: "a", Kind: impl.CmdAdd, Name: "In", Flags: 16, Date: -1}, impl.ErrText},
		{impl.Cmd{Tag: "a", Kind: impl.CmdAdd, Name: "in", Flags: 16, Date: -1}, impl.ErrRange},
		// The set comes ahead of the numbers.
		{impl.Cmd{Tag: "a", Kind: impl.CmdFlag, Mode: 4, Flags: 16}, impl.ErrMany},
		{impl.Cmd{Tag: "a", Kind: impl.CmdFlag, Ranges: append(ranges(8), set(1000, 1)...), Mode: 4}, impl.ErrMany},
		{impl.Cmd{Tag: "a", Kind: impl.CmdFlag, Ranges: set(1, 1), Mode: 4}, impl.ErrRange},
		{impl.Cmd{Tag: "a", Kind: impl.CmdFetch, What: 8}, impl.ErrMany},
		{impl.Cmd{Tag: "a", Kind: impl.CmdFetch, Ranges: ranges(9), What: impl.WhatBody, Path: []int64{0}}, impl.ErrMany},
		{impl.Cmd{Tag: "a", Kind: impl.CmdFetch, Ranges: set(1, 1), What: impl.WhatBody, Path: []int64{0}}, impl.ErrRange},
		// The numbers come ahead of the terms.
		{sortCmd(5, true, nil), impl.ErrRange},
		{sortCmd(0, false, make([]impl.Term, 1)), impl.ErrRange},
		{sortCmd(4, true, nil), impl.ErrMany},
		{sortCmd(4, true, make([]impl.Term, 1)), impl.ErrForm},
	} {
		askCode(t, fmt.Sprint(i, " ", by.c), impl.CmdFault(by.c), by.want)
		askCmdFault(t, by.c)
	}
}

// faultyCmds are commands with a fault, some with several.
func faultyCmds() []impl.Cmd {
	list := []impl.Cmd{{}, {Tag: "a"}, {Kind: impl.CmdNoop}, {Tag: "a", Kind: 15}, {Tag: "a", Kind: -1}, wholeCmd(), addCmd("in", 0, 0, ""), addCmd("in", 0, 0, string(someBytes(401))), fetchCmd(impl.WhatText, 1, 2, 3, 4), fetchCmd(impl.WhatFlags, 1)}
	for _, c := range someCmds() {
		for _, put := range []func(c *impl.Cmd){
			func(c *impl.Cmd) { c.Tag = "A" }, func(c *impl.Cmd) { c.Tag = strings.Repeat("a", 1<<12) }, func(c *impl.Cmd) { c.Name += "1" }, func(c *impl.Cmd) { c.Ranges = ranges(9) }, func(c *impl.Cmd) { c.Ranges = set(1, 1000) },
			func(c *impl.Cmd) { c.Mode = 4 }, func(c *impl.Cmd) { c.Flags = 16 }, func(c *impl.Cmd) { c.Date = 10000 }, func(c *impl.Cmd) { c.Data = someBytes(1 << 12) }, func(c *impl.Cmd) { c.What = 8 },
			func(c *impl.Cmd) { c.Path = []int64{0} }, func(c *impl.Cmd) { c.Path = times(1<<12, 1) }, func(c *impl.Cmd) { c.Key = 5 }, func(c *impl.Cmd) { c.Cmp = 4 }, func(c *impl.Cmd) { c.Terms = make([]impl.Term, 1) }, func(c *impl.Cmd) { c.Terms = chain(13) },
		} {
			wrong := c
			put(&wrong)
			list = append(list, wrong)
		}
	}
	return list
}

func TestFaultyCommandsHaveAFault(t *testing.T) {
	codes := map[int64]int{}
	for _, c := range faultyCmds() {
		code := askCmdFault(t, c)
		codes[code]++
		if code == impl.OK {
			t.Errorf("%.80v has no fault", c)
		}
	}
	for _, code := range []int64{impl.ErrForm, impl.ErrRange, impl.ErrMany, impl.ErrText} {
		if codes[code] == 0 {
			t.Errorf("no command has the code %d", code)
		}
	}
	// Each two things that are wrong, of which one comes first.
	for _, c := range someCmds() {
		for _, one := range faultyCmds() {
			other := c
			other.Tag, other.Ranges, other.Data, other.Path, other.Flags, other.Date = one.Tag, one.Ranges, one.Data, one.Path, one.Flags, one.Date
			askCmdFault(t, other)
			other = c
			other.Name, other.Mode, other.What, other.Key, other.Back, other.Terms, other.Cmp = one.Name, one.Mode, one.What, one.Key, one.Back, one.Terms, one.Cmp
			askCmdFault(t, other)
		}
	}
}

// wholeCmd has all that a command can have, more than one kind has.
func wholeCmd() impl.Cmd {
	return impl.Cmd{
		Tag: "a1", Kind: 6, Name: "in", Ranges: set(1, 2, 3, 4), Mode: 2, Flags: 5, Date: 77, Data: []byte("data"),
		What: 3, Path: []int64{1, 2}, Key: 2, Back: true, Terms: wholeTerms(), Cmp: 2,
	}
}

// otherCmds each differ from wholeCmd in one thing alone.
func otherCmds() map[string]impl.Cmd {
	cmds := map[string]impl.Cmd{}
	for what, change := range map[string]func(c *impl.Cmd){
		"Tag": func(c *impl.Cmd) { c.Tag = "a2" }, "a longer Tag": func(c *impl.Cmd) { c.Tag = "a11" }, "a large Tag": func(c *impl.Cmd) { c.Tag = "A1" }, "no Tag": func(c *impl.Cmd) { c.Tag = "" },
		"Kind": func(c *impl.Cmd) { c.Kind++ }, "Kind far off": func(c *impl.Cmd) { c.Kind += 1 << 32 },
		"Name": func(c *impl.Cmd) { c.Name = "im" }, "a large Name": func(c *impl.Cmd) { c.Name = "In" }, "no Name": func(c *impl.Cmd) { c.Name = "" }, "Tag and Name swap": func(c *impl.Cmd) { c.Tag, c.Name = c.Name, c.Tag },
		"From": func(c *impl.Cmd) { c.Ranges[1].From++ }, "To": func(c *impl.Cmd) { c.Ranges[0].To-- }, "a range less": func(c *impl.Cmd) { c.Ranges = c.Ranges[:1] }, "a range more": func(c *impl.Cmd) { c.Ranges = append(c.Ranges, impl.Range{}) }, "no ranges": func(c *impl.Cmd) { c.Ranges = nil }, "order of ranges": func(c *impl.Cmd) { slices.Reverse(c.Ranges) },
		"Mode": func(c *impl.Cmd) { c.Mode-- }, "Flags": func(c *impl.Cmd) { c.Flags++ }, "Date": func(c *impl.Cmd) { c.Date = -c.Date }, "Mode and Flags swap": func(c *impl.Cmd) { c.Mode, c.Flags = c.Flags, c.Mode },
		"a byte": func(c *impl.Cmd) { c.Data[2]++ }, "a byte less": func(c *impl.Cmd) { c.Data = c.Data[:3] }, "a byte more": func(c *impl.Cmd) { c.Data = append(c.Data, 0) }, "no Data": func(c *impl.Cmd) { c.Data = nil },
		"What": func(c *impl.Cmd) { c.What++ }, "no What": func(c *impl.Cmd) { c.What = 0 },
		"a number of Path": func(c *impl.Cmd) { c.Path[1]-- }, "a number less": func(c *impl.Cmd) { c.Path = c.Path[:1] }, "a number more": func(c *impl.Cmd) { c.Path = append(c.Path, 0) }, "no Path": func(c *impl.Cmd) { c.Path = nil }, "order of Path": func(c *impl.Cmd) { slices.Reverse(c.Path) },
		"Key": func(c *impl.Cmd) { c.Key++ }, "Back": func(c *impl.Cmd) { c.Back = false }, "Cmp": func(c *impl.Cmd) { c.Cmp++ }, "no Cmp": func(c *impl.Cmd) { c.Cmp = 0 },
		"no Terms": func(c *impl.Cmd) { c.Terms = nil },
	} {
		c := wholeCmd()
		change(&c)
		cmds[what] = c
	}
	for what, terms := range otherTerms() {
		c := wholeCmd()
		c.Terms = terms
		cmds["Terms: "+what] = c
	}
	return cmds
}

func TestSameCommands(t *testing.T) {
	askBool(t, "itself", impl.SameCmds(wholeCmd(), wholeCmd()), true)
	for what, c := range otherCmds() {
		askBool(t, what, impl.SameCmds(wholeCmd(), c), false)
		askBool(t, what, impl.SameCmds(c, wholeCmd()), false)
		askBool(t, what, impl.SameCmds(c, c), true)
	}
	// Each thing that a command has, beside one that has nothing.
	for what, put := range cmdThings() {
		var c, other impl.Cmd
		put(&c)
		put(&other)
		askBool(t, what, impl.SameCmds(c, impl.Cmd{}), false)
		askBool(t, what, impl.SameCmds(impl.Cmd{}, c), false)
		askBool(t, what, impl.SameCmds(c, other), true)
	}
	list := slices.Concat(someCmds(), faultyCmds())
	for _, what := range slices.Sorted(maps.Keys(otherCmds())) {
		list = append(list, otherCmds()[what])
	}
	var texts []string
	for _, c := range list {
		texts = append(texts, cmdWhole(c))
	}
	for i, a := range list {
		for k, b := range list {
			if got := impl.SameCmds(a, b); got != (texts[i] == texts[k]) {
				t.Errorf("%.200v and %.200v: got %v", a, b, got)
			}
		}
	}
}

// cmdWhole tells all of a command; an empty list and nil are the same.
func cmdWhole(c impl.Cmd) string {
	return fmt.Sprintf("%q %d %q %v %d %d %d %x %d %v %d %v %v %d", c.Tag, c.Kind, c.Name, c.Ranges, c.Mode, c.Flags, c.Date, c.Data, c.What, c.Path, c.Key, c.Back, c.Terms, c.Cmp)
}

func TestCommandsOfNothingAreTheSameAsNil(t *testing.T) {
	empty := impl.Cmd{Ranges: []impl.Range{}, Data: []byte{}, Path: []int64{}, Terms: []impl.Term{}}
	askBool(t, "lists of nothing", impl.SameCmds(empty, impl.Cmd{}), true)
	askBool(t, "lists of nothing", impl.SameCmds(impl.Cmd{}, empty), true)
	askBool(t, "nothing", impl.SameCmds(impl.Cmd{}, impl.Cmd{}), true)
	askBool(t, "a range of nothing", impl.SameCmds(impl.Cmd{Ranges: make([]impl.Range, 1)}, impl.Cmd{}), false)
	askBool(t, "a byte 0", impl.SameCmds(impl.Cmd{Data: make([]byte, 1)}, impl.Cmd{}), false)
	askBool(t, "a number 0", impl.SameCmds(impl.Cmd{Path: make([]int64, 1)}, impl.Cmd{}), false)
	askBool(t, "a term of nothing", impl.SameCmds(impl.Cmd{Terms: make([]impl.Term, 1)}, impl.Cmd{}), false)
}

func TestTagOf(t *testing.T) {
	for _, by := range []struct{ line, tag string }{
		{"a", "a"}, {"a noop", "a"}, {"a1 wink", "a1"}, {"0000 ", "0000"}, {"zzzz  ", "zzzz"}, {"ab  noop", "ab"}, {"z9 \x00\xff\n", "z9"}, {"noop", "noop"}, {"abcd " + strings.Repeat("x", 1<<20), "abcd"}, {"a " + strings.Repeat(" ", 1<<20), "a"}, {"a A", "a"}, {"9 *", "9"}, {"a add in", "a"}, {"a abcde", "a"},
	} {
		askText(t, fmt.Sprintf("%.30q", by.line), impl.TagOf(by.line), impl.OK, by.tag)
	}
	for _, line := range []string{"", " ", "  ", " a", " a noop", "  a", "A", "A noop", "aB noop", "abcde", "abcde noop", "a\tnoop", "a\nnoop", "a\x00 noop", "a- noop", "* noop", "ä noop", "\xff noop", "a\u00a0noop", "a. noop", "{ noop", "` noop", "/ noop", ": noop", "a,b noop", "\na noop", "a\n noop", strings.Repeat("a", 1<<20), strings.Repeat(" ", 1<<20) + "a"} {
		askText(t, fmt.Sprintf("%.30q", line), impl.TagOf(line), impl.ErrText, "")
	}
	for b := range 256 {
		letter := string([]byte{byte(b)})
		for _, line := range []string{letter, "a" + letter, letter + "a", "abc" + letter, "a" + letter + "bcd"} {
			word, _, _ := strings.Cut(line, " ")
			for _, behind := range []string{"", " ", " noop", " A"} {
				if cmdTags.MatchString(word) {
					askText(t, fmt.Sprintf("%q", line+behind), impl.TagOf(line+behind), impl.OK, word)
				} else {
					askText(t, fmt.Sprintf("%q", line+behind), impl.TagOf(line+behind), impl.ErrText, "")
				}
			}
		}
	}
}

func TestWhatsByTheirWords(t *testing.T) {
	words := []string{"flags", "size", "body", "bytes", "text", "preview", "subject"}
	for i, word := range words {
		askInt(t, word, impl.WhatOf(word), impl.OK, int64(i)+1)
	}
	none := append(nameArguments(), "", " ", "\n", "\x00", "0", "1", "7", "flag", "all", "header", "date", "uid", "none", "what", "flags size", "flagssize", "text 0", "body 1", "seen", "noop", "fetch")
	for _, word := range words {
		none = append(none, strings.ToUpper(word), strings.ToUpper(word[:1])+word[1:], word[:len(word)-1]+strings.ToUpper(word[len(word)-1:]))
		none = append(none, word+" ", " "+word, word+"\n", word+"\x00", word[:2]+" "+word[2:], word[:len(word)-1], word[1:], word+"s", "a"+word, word+word, word[:1]+word)
	}
	for _, word := range none {
		askInt(t, fmt.Sprintf("%.30q", word), impl.WhatOf(word), impl.ErrNone, 0)
	}
}
