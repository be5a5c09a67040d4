package tests

import (
	"encoding/base64"
	"fmt"
	"math/rand"
	"regexp"
	"slices"
	"strconv"
	"strings"
	"testing"

	"loop.example/g00447/impl"
)

func askCmd(t *testing.T, what string, got impl.CmdResult, code int64, c impl.Cmd) {
	t.Helper()
	if got.Code != code || cmdWhole(got.Cmd) != cmdWhole(c) {
		t.Errorf("%s: got code %d %.300s, want code %d %.300s", what, got.Code, cmdWhole(got.Cmd), code, cmdWhole(c))
	}
}

var whatWords = map[int64]string{1: "flags", 2: "size", 3: "body", 4: "bytes", 5: "text", 6: "preview", 7: "subject"}
var modeWords = map[int64]string{1: "set", 2: "more", 3: "less"}
var keyWords = map[int64]string{1: "date", 2: "size", 3: "subject", 4: "arrival"}

func wantPath(path []int64) string {
	if len(path) == 0 {
		return "0"
	}
	return strings.Join(strings.Fields(strings.Trim(fmt.Sprint(path), "[]")), ".")
}

// wantCmdText fills a pattern for each kind.
func wantCmdText(c impl.Cmd) string {
	set, data := wantSetText(c.Ranges), base64.StdEncoding.EncodeToString(c.Data)
	terms := ""
	if len(c.Terms) > 0 {
		terms = wantTermsText(c.Terms)
	}
	order := map[bool]string{false: "up", true: "down"}[c.Back]
	fetch := fmt.Sprintf("fetch %s %s", set, whatWords[c.What])
	if c.What == 3 || c.What == 4 || c.What == 5 {
		fetch += " " + wantPath(c.Path)
	}
	return c.Tag + " " + map[int64]string{
		1: "noop", 2: "make " + c.Name, 3: "erase " + c.Name, 4: "select " + c.Name, 5: "close",
		6: fmt.Sprintf("add %s %d %d %s", c.Name, c.Flags, c.Date, data),
		7: fmt.Sprintf("flag %s %s %d", set, modeWords[c.Mode], c.Flags),
		8: fmt.Sprintf("copy %s %s", set, c.Name), 9: fmt.Sprintf("move %s %s", set, c.Name), 10: "purge", 11: fetch,
		12: "search " + terms, 13: fmt.Sprintf("sort %s %s %s", keyWords[c.Key], order, terms),
		14: "compare " + map[int64]string{1: "i;octet", 2: "i;ascii-casemap", 3: "i;unicode-casemap"}[c.Cmp],
	}[c.Kind]
}

const flagsPattern = `([0-9]|1[0-5])`
const namePattern = `([a-z]{1,8})`
const setWord = `([0-9*:,]+)`

// cmdPatterns are what stands behind a Tag, by the kinds. Sets, letters and terms are asked more closely behind them.
var cmdPatterns = map[int64]*regexp.Regexp{
	1: behindTag(`noop`), 2: behindTag(`make ` + namePattern), 3: behindTag(`erase ` + namePattern), 4: behindTag(`select ` + namePattern), 5: behindTag(`close`),
	6: behindTag(`add ` + namePattern + ` ` + flagsPattern + ` (0|[1-9][0-9]{0,3}) ([A-Za-z0-9+/]+={0,2})`),
	7: behindTag(`flag ` + setWord + ` (set|more|less) ` + flagsPattern),
	8: behindTag(`copy ` + setWord + ` ` + namePattern), 9: behindTag(`move ` + setWord + ` ` + namePattern), 10: behindTag(`purge`),
	11: behindTag(`fetch ` + setWord + ` (?:(flags|size|preview|subject)|(body|bytes|text) (0|[1-9](?:\.[1-9]){0,2}))`),
	12: behindTag(`search (.+)`), 13: behindTag(`sort (date|size|subject|arrival) (up|down) (.+)`),
	14: behindTag(`compare (?:(i;octet)|(i;ascii-casemap)|(i;unicode-casemap))`),
}

func behindTag(pattern string) *regexp.Regexp {
	return regexp.MustCompile(`(?s)\A([a-z0-9]{1,4}) ` + pattern + `\z`)
}

// wantCmd reads a line by the patterns.
func wantCmd(line string) (c impl.Cmd, code int64) {
	for kind, pattern := range cmdPatterns {
		if found := pattern.FindStringSubmatch(line); found != nil {
			c = impl.Cmd{Tag: found[1], Kind: kind}
			if wantFill(&c, found[2:]) {
				return c, impl.OK
			}
		}
	}
	return impl.Cmd{}, impl.ErrText
}

// wantFill fills the command with what a pattern of its kind has found, and answers if that is right.
func wantFill(c *impl.Cmd, found []string) bool {
	number := func(word string) int64 {
		n, _ := strconv.ParseInt(word, 10, 64)
		return n
	}
	place := func(words map[int64]string, word string) int64 {
		for n, known := range words {
			if known == word {
				return n
			}
		}
		return 0
	}
	code := int64(impl.OK)
	switch c.Kind {
	case 2, 3, 4:
		c.Name = found[0]
	case 6:
		data, err := base64.StdEncoding.Strict().DecodeString(found[3])
		c.Name, c.Flags, c.Date, c.Data = found[0], number(found[1]), number(found[2]), data
		return err == nil && len(data) >= 1 && len(data) <= 400
	case 7:
		c.Ranges, code = wantSet(found[0])
		c.Mode, c.Flags = place(modeWords, found[1]), number(found[2])
	case 8, 9:
		c.Ranges, code = wantSet(found[0])
		c.Name = found[1]
	case 11:
		c.Ranges, code = wantSet(found[0])
		c.What = place(whatWords, found[1]+found[2])
		for digit := range strings.SplitSeq(found[3], ".") {
			if n := number(digit); n > 0 {
				c.Path = append(c.Path, n)
			}
		}
	case 12:
		c.Terms, code = wantTerms(found[0])
	case 13:
		c.Terms, code = wantTerms(found[2])
		c.Key, c.Back = place(keyWords, found[0]), found[1] == "down"
	case 14:
		c.Cmp = int64(slices.IndexFunc(found, func(word string) bool { return word != "" })) + 1
	}
	return code == impl.OK
}

// cmdsByHand are written out, each with its line.
var cmdsByHand = []struct {
	line string
	cmd  impl.Cmd
}{
	{"a noop", impl.Cmd{Tag: "a", Kind: 1}}, {"0 noop", impl.Cmd{Tag: "0", Kind: 1}}, {"z9z9 noop", impl.Cmd{Tag: "z9z9", Kind: 1}}, {"noop noop", impl.Cmd{Tag: "noop", Kind: 1}},
	{"a make in", impl.Cmd{Tag: "a", Kind: 2, Name: "in"}}, {"a erase abcdefgh", impl.Cmd{Tag: "a", Kind: 3, Name: "abcdefgh"}}, {"a select z", impl.Cmd{Tag: "a", Kind: 4, Name: "z"}}, {"a make make", impl.Cmd{Tag: "a", Kind: 2, Name: "make"}}, {"make erase noop", impl.Cmd{Tag: "make", Kind: 3, Name: "noop"}},
	{"a close", impl.Cmd{Tag: "a", Kind: 5}}, {"a purge", impl.Cmd{Tag: "a", Kind: 10}},
	{"a1 add in 8 50 YQ==", impl.Cmd{Tag: "a1", Kind: 6, Name: "in", Flags: 8, Date: 50, Data: []byte("a")}}, {"a add in 0 0 AA==", impl.Cmd{Tag: "a", Kind: 6, Name: "in", Data: []byte{0}}}, {"a add add 15 9999 /+8=", impl.Cmd{Tag: "a", Kind: 6, Name: "add", Flags: 15, Date: 9999, Data: []byte{0xff, 0xef}}}, {"a add z 10 1000 YWJj", impl.Cmd{Tag: "a", Kind: 6, Name: "z", Flags: 10, Date: 1000, Data: []byte("abc")}},
	{"a flag 1:* more 8", impl.Cmd{Tag: "a", Kind: 7, Ranges: set(1, 0), Mode: 2, Flags: 8}}, {"a flag * set 0", impl.Cmd{Tag: "a", Kind: 7, Ranges: set(0, 0), Mode: 1}}, {"a flag 7:5,1 less 15", impl.Cmd{Tag: "a", Kind: 7, Ranges: set(7, 5, 1, 1), Mode: 3, Flags: 15}}, {"a flag 999 set 10", impl.Cmd{Tag: "a", Kind: 7, Ranges: set(999, 999), Mode: 1, Flags: 10}},
	{"a copy 1,3 old", impl.Cmd{Tag: "a", Kind: 8, Ranges: set(1, 1, 3, 3), Name: "old"}}, {"a move *:1 in", impl.Cmd{Tag: "a", Kind: 9, Ranges: set(0, 1), Name: "in"}}, {"copy copy 2:* copy", impl.Cmd{Tag: "copy", Kind: 8, Ranges: set(2, 0), Name: "copy"}},
	{"a fetch 1 flags", impl.Cmd{Tag: "a", Kind: 11, Ranges: set(1, 1), What: 1}}, {"a fetch 2 size", impl.Cmd{Tag: "a", Kind: 11, Ranges: set(2, 2), What: 2}}, {"a fetch 1 body 0", impl.Cmd{Tag: "a", Kind: 11, Ranges: set(1, 1), What: 3}}, {"a fetch 1 body 1", impl.Cmd{Tag: "a", Kind: 11, Ranges: set(1, 1), What: 3, Path: []int64{1}}}, {"a fetch 1 bytes 9.9.9", impl.Cmd{Tag: "a", Kind: 11, Ranges: set(1, 1), What: 4, Path: []int64{9, 9, 9}}},
	{"a fetch * text 1.2", impl.Cmd{Tag: "a", Kind: 11, Ranges: set(0, 0), What: 5, Path: []int64{1, 2}}}, {"a fetch * text 1.2.3", impl.Cmd{Tag: "a", Kind: 11, Ranges: set(0, 0), What: 5, Path: []int64{1, 2, 3}}}, {"a fetch 3:1 text 0", impl.Cmd{Tag: "a", Kind: 11, Ranges: set(3, 1), What: 5}}, {"a fetch 1:* preview", impl.Cmd{Tag: "a", Kind: 11, Ranges: set(1, 0), What: 6}}, {"a fetch 1,2,3,4,5,6,7,8 subject", impl.Cmd{Tag: "a", Kind: 11, Ranges: set(1, 1, 2, 2, 3, 3, 4, 4, 5, 5, 6, 6, 7, 7, 8, 8), What: 7}},
	{"a search all", impl.Cmd{Tag: "a", Kind: 12, Terms: []impl.Term{{Kind: 1}}}}, {"a search not flag seen", impl.Cmd{Tag: "a", Kind: 12, Terms: []impl.Term{{Kind: 2, Num: 1}, {Kind: 9}}}}, {"a search subject \xc3\xa4", impl.Cmd{Tag: "a", Kind: 12, Terms: []impl.Term{{Kind: 6, Codes: []int64{228}}}}}, {"a search or uid 1:* body \xc2\xa0", impl.Cmd{Tag: "a", Kind: 12, Terms: []impl.Term{{Kind: 8, Ranges: set(1, 0)}, {Kind: 7, Codes: []int64{160}}, {Kind: 11, Left: 0, Right: 1}}}}, {"a search subject down", impl.Cmd{Tag: "a", Kind: 12, Terms: []impl.Term{{Kind: 6, Codes: []int64{100, 111, 119, 110}}}}},
	{"a sort date down all", impl.Cmd{Tag: "a", Kind: 13, Key: 1, Back: true, Terms: []impl.Term{{Kind: 1}}}}, {"a sort size up since 0", impl.Cmd{Tag: "a", Kind: 13, Key: 2, Terms: []impl.Term{{Kind: 3}}}}, {"a sort subject up subject subject", impl.Cmd{Tag: "a", Kind: 13, Key: 3, Terms: []impl.Term{{Kind: 6, Codes: []int64{115, 117, 98, 106, 101, 99, 116}}}}}, {"a sort arrival down not all", impl.Cmd{Tag: "a", Kind: 13, Key: 4, Back: true, Terms: []impl.Term{{Kind: 1}, {Kind: 9}}}},
	{"a compare i;octet", impl.Cmd{Tag: "a", Kind: 14, Cmp: 1}}, {"a compare i;ascii-casemap", impl.Cmd{Tag: "a", Kind: 14, Cmp: 2}}, {"a compare i;unicode-casemap", impl.Cmd{Tag: "a", Kind: 14, Cmp: 3}},
}

func TestCommandsByHand(t *testing.T) {
	kinds := map[int64]int{}
	for _, by := range cmdsByHand {
		kinds[by.cmd.Kind]++
		askText(t, by.line, impl.CmdText(by.cmd), impl.OK, by.line)
		askCmd(t, by.line, impl.ParseCmd(by.line), impl.OK, by.cmd)
		askCmd(t, "the other reader of "+by.line, commandResult(wantCmd(by.line)), impl.OK, by.cmd)
	}
	if len(kinds) != 14 {
		t.Errorf("only %d kinds are written out", len(kinds))
	}
}

func commandResult(c impl.Cmd, code int64) impl.CmdResult {
	return impl.CmdResult{Code: code, Cmd: c}
}

func TestCmdTextTellsTheFault(t *testing.T) {
	for _, c := range faultyCmds() {
		askText(t, fmt.Sprintf("%.200v", c), impl.CmdText(c), wantCmdFault(c), "")
	}
	askText(t, "nothing", impl.CmdText(impl.Cmd{}), impl.ErrText, "")
	askText(t, "no kind", impl.CmdText(impl.Cmd{Tag: "a"}), impl.ErrForm, "")
	askText(t, "no set", impl.CmdText(flagCmd(nil, 1, 0)), impl.ErrMany, "")
	askText(t, "no Data", impl.CmdText(addCmd("in", 0, 0, "")), impl.ErrRange, "")
	askText(t, "401 bytes", impl.CmdText(addCmd("in", 0, 0, string(someBytes(401)))), impl.ErrRange, "")
	askText(t, "a Path of which the What has none", impl.CmdText(fetchCmd(impl.WhatFlags, 1)), impl.ErrForm, "")
	askText(t, "two trees", impl.CmdText(searchCmd(slices.Repeat(allTerm(), 2))), impl.ErrForm, "")
}

// askReadBackCmd asks that a command without a fault has its line, and is read back from it.
func askReadBackCmd(t *testing.T, c impl.Cmd) {
	t.Helper()
	askCode(t, cmdWhole(c), impl.CmdFault(c), impl.OK)
	text := impl.CmdText(c)
	askText(t, cmdWhole(c), text, impl.OK, wantCmdText(c))
	read := impl.ParseCmd(text.Text)
	askCmd(t, text.Text, read, impl.OK, c)
	askBool(t, text.Text, impl.SameCmds(read.Cmd, c), true)
	askText(t, text.Text, impl.TagOf(text.Text), impl.OK, c.Tag)
}

func TestCommandsAreReadBackFromTheirLines(t *testing.T) {
	for _, c := range someCmds() {
		for _, tag := range []string{"a", "z", "0", "9", "a1", "1a", "zzzz", "0000", "noop", "9z"} {
			c.Tag = tag
			askReadBackCmd(t, c)
		}
	}
	for date := range int64(10000) {
		askReadBackCmd(t, addCmd("in", date%16, date, "a"))
	}
	for size := 1; size <= 400; size++ {
		askReadBackCmd(t, addCmd("in", 0, 0, string(someBytes(size))))
	}
	for b := range 256 {
		askReadBackCmd(t, addCmd("z", 15, 0, string([]byte{byte(b)})))
		askReadBackCmd(t, addCmd("z", 15, 0, string([]byte{0, byte(b)})))
	}
	for flags := range int64(16) {
		for mode := int64(1); mode <= 3; mode++ {
			askReadBackCmd(t, flagCmd(set(2, 0, 1, 1, 7, 5), mode, flags))
		}
	}
	for what := int64(1); what <= 7; what++ {
		askReadBackCmd(t, fetchCmd(what))
		if what >= 3 && what <= 5 {
			eachPath(1, 9, 3, func(path []int64) { askReadBackCmd(t, fetchCmd(what, path...)) })
		}
	}
	for cmp := int64(1); cmp <= 3; cmp++ {
		askReadBackCmd(t, impl.Cmd{Tag: "a", Kind: impl.CmdCompare, Cmp: cmp})
	}
}

func TestCommandsOfSetsAndTermsAreReadBack(t *testing.T) {
	for _, list := range someSets() {
		for _, c := range someCmds() {
			if len(c.Ranges) > 0 {
				c.Ranges = list
				askReadBackCmd(t, c)
			}
		}
	}
	for _, terms := range somePrograms() {
		askReadBackCmd(t, searchCmd(terms))
		for _, key := range keys {
			askReadBackCmd(t, sortCmd(key, false, terms))
			askReadBackCmd(t, sortCmd(key, true, terms))
		}
	}
	for c := int64(33); c <= 65535; c += 7 {
		if c != 127 && !isSurrogate(c) {
			askReadBackCmd(t, searchCmd([]impl.Term{{Kind: impl.TermBody, Codes: []int64{c}}}))
		}
	}
	draw := rand.New(rand.NewSource(21))
	for range 4000 {
		askReadBackCmd(t, anyCmd(draw))
	}
}

// anyCmd is drawn from all kinds, with all that its kind has.
func anyCmd(draw *rand.Rand) impl.Cmd {
	letters := func(alphabet string, most int) string {
		var word []byte
		for range draw.Intn(most) + 1 {
			word = append(word, alphabet[draw.Intn(len(alphabet))])
		}
		return string(word)
	}
	c := impl.Cmd{Tag: letters("abz019", 4), Kind: draw.Int63n(14) + 1}
	for _, thing := range thingsOfCmdKind[c.Kind] {
		switch thing {
		case "Name":
			c.Name = letters("abinoz", 8)
		case "Ranges":
			c.Ranges = anySet(draw, []int64{9, 999}[draw.Intn(2)])
		case "Mode":
			c.Mode = draw.Int63n(3) + 1
		case "Flags":
			c.Flags = draw.Int63n(16)
		case "Date":
			c.Date = []int64{0, 9999, draw.Int63n(10), draw.Int63n(10000)}[draw.Intn(4)]
		case "Data":
			c.Data = []byte(letters("ab\x00\xff \n=", []int{1, 2, 3, 4, 400}[draw.Intn(5)]))
		case "What":
			c.What = draw.Int63n(7) + 1
		case "Path":
			if c.What >= 3 && c.What <= 5 {
				c.Path = [][]int64{nil, {draw.Int63n(9) + 1}, {9, draw.Int63n(9) + 1}, {draw.Int63n(9) + 1, 1, draw.Int63n(9) + 1}}[draw.Intn(4)]
			}
		case "Key":
			c.Key = draw.Int63n(4) + 1
		case "Back":
			c.Back = draw.Intn(2) == 1
		case "Terms":
			c.Terms = anyProgram(draw, draw.Intn(12)+1)
		case "Cmp":
			c.Cmp = draw.Int63n(3) + 1
		}
	}
	return c
}

// noCmds are lines that no command has.
func noCmds() []string {
	list := []string{
		"", " ", "  ", "a", "a ", " a", "noop", " noop", "a  noop", " a noop", "a noop ", "a noop  ", "  a noop", "a noop\n", "\na noop", "a\nnoop", "a\tnoop", "a noop\t", "a noop\x00", "a\x00noop", "a\u00a0noop", "noop a", "a: noop",
		"A noop", "aB noop", "abcde noop", "- noop", "* noop", "ä noop", "\xff noop", "a. noop", "a1b2c noop", "a, noop",
		"a NOOP", "a Noop", "a noo", "a nooop", "a noops", "a wink", "a 1", "a *", "a bad", "a ok", "a fetchh", "a sortt", "a Select in", "a selec in", "a selects in", "a delete in", "a uid", "a expunge", "a flags 1 set 1", "a x", "a all",
		"a noop x", "a noop noop", "a close x", "a close in", "a purge 1", "a purge x", "a noop 0", "a purge purge", "a close\n",
		"a make", "a make ", "a erase", "a select", "a make in in", "a make in old", "a make  in", "a make in ", "a make In", "a make IN", "a make in1", "a make abcdefghi", "a make ä", "a make in\n", "a make i-n", "a make \xff", "a erase *", "a erase 1", "a select \"in\"", "a select in,old", "a select \x00", "a erase in x", "a select in all",
		"a add", "a add in", "a add in 8", "a add in 8 50", "a add in 8 50 ", "a add 8 50 YQ==", "a add in 50 YQ==", "a add in 8 YQ==", "a add in 8 50 YQ== ", "a add in 8 50  YQ==", "a add in 8 50 YQ== YQ==", "a add in 8 50 YQ== x", "a add in 50 8", "a add in  8 50 YQ==",
		"a add in 16 50 YQ==", "a add in -1 50 YQ==", "a add in +8 50 YQ==", "a add in 08 50 YQ==", "a add in 00 50 YQ==", "a add in 8 10000 YQ==", "a add in 8 -1 YQ==", "a add in 8 +50 YQ==", "a add in 8 050 YQ==", "a add in 8 00 YQ==", "a add in 8 00050 YQ==", "a add in 8 -0 YQ==", "a add in seen 50 YQ==", "a add in none 50 YQ==", "a add in 8 today YQ==", "a add in * 50 YQ==", "a add in 8 * YQ==", "a add in 8 1.0 YQ==", "a add in 8 1e1 YQ==", "a add in 8 0x1 YQ==", "a add in 8 1_0 YQ==", "a add in 8 \xd9\xa1 YQ==",
		"a add in 9223372036854775808 50 YQ==", "a add in 8 9223372036854775808 YQ==", "a add in 8 18446744073709551666 YQ==", "a add in 4294967304 50 YQ==", "a add in 8 " + strings.Repeat("9", 400) + " YQ==", "a add in " + strings.Repeat("0", 400) + "8 50 YQ==", "a add in 8 -9223372036854775808 YQ==",
		"a add in 8 50 YQ", "a add in 8 50 YQ=", "a add in 8 50 YQ===", "a add in 8 50 YR==", "a add in 8 50 YWJ=", "a add in 8 50 =", "a add in 8 50 ====", "a add in 8 50 Y", "a add in 8 50 YQ==YQ==", "a add in 8 50 YWJj\n", "a add in 8 50 YW\nJj", "a add in 8 50 YWJ-", "a add in 8 50 YWJ_", "a add in 8 50 YW.j", "a add in 8 50 a", "a add in 8 50 \xff\xff\xff\xff", "a add in 8 50 AA=A", "a add In 8 50 YQ==", "a add  8 50 YQ==", "a add in 8 50 " + base64.StdEncoding.EncodeToString(someBytes(401)), "a add in 8 50 " + base64.StdEncoding.EncodeToString(someBytes(1200)), "a add in 8 50 " + base64.StdEncoding.EncodeToString(someBytes(1<<16)),
		"a flag", "a flag 1", "a flag 1 set", "a flag 1 set ", "a flag set 1", "a flag 1 1", "a flag 1 set 1 ", "a flag 1 set 1 1", "a flag 1  set 1", "a flag 1 set  1", "a flag 1 SET 1", "a flag 1 Set 1", "a flag 1 sets 1", "a flag 1 se 1", "a flag 1 add 1", "a flag 1 mores 1", "a flag 1 1 set", "a flag 1  1", "a flag 1 set seen", "a flag 1 set none", "a flag 1 less -1", "a flag 1 set 16", "a flag 1 set 00", "a flag 1 set 01", "a flag 1 set +1", "a flag 1 set -0", "a flag 1 set *", "a flag 1 set 1,2", "a flag 1 set 18446744073709551617", "a flag 1 set 9223372036854775808",
		"a flag 0 set 1", "a flag 01 set 1", "a flag 1000 set 1", "a flag 1:1 set 1", "a flag *:* set 1", "a flag 1, set 1", "a flag ,1 set 1", "a flag 1, 2 set 1", "a flag -1 set 1", "a flag +1 set 1", "a flag 1: set 1", "a flag 1:2:3 set 1", "a flag x set 1", "a flag ** set 1", "a flag 1,2,3,4,5,6,7,8,9 set 1", "a flag  set 1", "a flag in 1 set 1", "a flag 1-2 set 1", "a flag 1:02 set 1",
		"a copy", "a copy 1", "a copy in", "a copy 1 ", "a copy  in", "a copy in 1", "a copy 1 in ", "a copy 1 in in", "a copy 1 In", "a copy 0 in", "a copy 1:1 in", "a copy 1,3 in 1", "a copy 1 3 in", "a copy 1 in1", "a move", "a move 1", "a move in", "a move 1 abcdefghi", "a move 1000 in", "a move 1 to in", "a move 1,2,3,4,5,6,7,8,9 in", "a move 1 ", "a move * *",
		"a fetch", "a fetch 1", "a fetch 1 ", "a fetch flags", "a fetch 1 x", "a fetch 1 FLAGS", "a fetch 1 Flags", "a fetch 1 flag", "a fetch 1 flagss", "a fetch 1 1", "a fetch 0 flags", "a fetch 01 flags", "a fetch 1000 flags", "a fetch 1:1 flags", "a fetch * ", "a fetch flags 1", "a fetch 1 all", "a fetch 1 header", "a fetch 1 2", "a fetch  flags", "a fetch 1  flags",
		"a fetch 1 flags 0", "a fetch 1 flags 1", "a fetch 1 size 0", "a fetch 1 size 1.2", "a fetch 1 preview 0", "a fetch 1 preview 1", "a fetch 1 subject 0", "a fetch 1 subject 1", "a fetch 1 flags ", "a fetch 1 size ", "a fetch 1 subject x",
		"a fetch 1 body", "a fetch 1 bytes", "a fetch 1 text", "a fetch 1 body ", "a fetch 1 text ", "a fetch 1 body  0", "a fetch 1 body 0 ", "a fetch 1 body 0 0", "a fetch 1 body 1 2", "a fetch 1 body 0.0", "a fetch 1 body 0.1", "a fetch 1 body 1.0", "a fetch 1 body 1.2.0", "a fetch 1 body 0.", "a fetch 1 body .0", "a fetch 1 body 00", "a fetch 1 body 01", "a fetch 1 body 1.", "a fetch 1 body .1", "a fetch 1 body .", "a fetch 1 body ..", "a fetch 1 body 1..2", "a fetch 1 body 1.2.", "a fetch 1 body .1.2", "a fetch 1 body 1.2.3.", "a fetch 1 body 1.2.3.4", "a fetch 1 body 1.1.1.1", "a fetch 1 body 10", "a fetch 1 body 1.10", "a fetch 1 body 10.1", "a fetch 1 body 1.02", "a fetch 1 body 01.2", "a fetch 1 body +1", "a fetch 1 body -1", "a fetch 1 body 1.-2", "a fetch 1 body 1.+2", "a fetch 1 body -0", "a fetch 1 body +0", "a fetch 1 body *", "a fetch 1 body 1.*", "a fetch 1 body x", "a fetch 1 body 1,2", "a fetch 1 body 1:2", "a fetch 1 body 1 .2", "a fetch 1 body 1. 2", "a fetch 1 body 1\n", "a fetch 1 body \xd9\xa1", "a fetch 1 text 1\x00", "a fetch 1 text 18446744073709551617", "a fetch 1 text 1.9223372036854775808", "a fetch 1 text 1.2.3.x", "a fetch 1 text 1.2.3 ",
		"a search", "a search ", "a search  all", "a search all ", "a search all all", "a search x", "a search ALL", "a search not", "a search and all", "a search flag", "a search flag none", "a search flag 1", "a search since 010", "a search larger 401", "a search subject", "a search subject ", "a search subject a b", "a search subject \xff", "a search subject \xc0\x80", "a search body \xed\xa0\x80", "a search body \x7f", "a search uid 1:1", "a search uid 0", "a search all\n", "a search date up all", "a search " + strings.Repeat("not ", 12) + "all", "a search subject " + strings.Repeat("a", 21),
		"a sort", "a sort all", "a sort date", "a sort date up", "a sort date up ", "a sort date all", "a sort up all", "a sort date down", "a sort  up all", "a sort date  all", "a sort date up  all", "a sort date up all ", "a sort date up all all", "a sort date up all x", "a sort Date up all", "a sort DATE up all", "a sort dates up all", "a sort dat up all", "a sort uid up all", "a sort 1 up all", "a sort date UP all", "a sort date Down all", "a sort date u all", "a sort date ups all", "a sort date back all", "a sort date true all", "a sort date 0 all", "a sort up date all", "a sort date up down all", "a sort date up x", "a sort date up not", "a sort date down " + strings.Repeat("not ", 12) + "all",
		"a compare", "a compare ", "a compare 1", "a compare octet", "a compare I;octet", "a compare i;Octet", "a compare i;octet ", "a compare i;octet x", "a compare  i;octet", "a compare i;ascii", "a compare i;ascii-casemap2", "a compare i;unicode_casemap", "a compare i;octet i;octet", "a compare i;octe", "a compare ;octet", "a compare i; octet", "a compare i;octet\n",
		"* gone 2", "* exists 4", "* bad", "a bad", "a ok", "a no 4", "1>a noop", "show", "crash 0",
	}
	for _, word := range []string{" ", "a ", "noop ", "x", "1,", "1.", "0", "not ", "all ", "YWJj", "\x00", "\n", "a noop", "a noop\n", "\xff"} {
		many := strings.Repeat(word, 1<<16)
		list = append(list, many, "a "+many, "a noop "+many, "a make "+many, "a add in 8 50 "+many+"!", "a add in 8 "+many, "a flag "+many, "a flag 1 set "+many+"7", "a fetch 1 body "+many+"10", "a fetch "+many+" size", "a search "+many, "a sort date up "+many, "a compare "+many, many+" noop", many+"a noop")
	}
	return append(list, "a add in 8 50 "+strings.Repeat("A", 1<<20), "a search subject "+strings.Repeat("a", 1<<20), "a search "+strings.Repeat("and ", 1<<16)+strings.Repeat("all ", 1<<16)+"all")
}

func TestLinesThatNoCommandHas(t *testing.T) {
	for _, line := range noCmds() {
		askCmd(t, fmt.Sprintf("%.60q", line), impl.ParseCmd(line), impl.ErrText, impl.Cmd{})
	}
}

// askAsCmd holds a line against the other reader; what is read has to be told so again. It answers if the line is read.
func askAsCmd(t *testing.T, line string) bool {
	t.Helper()
	c, code := wantCmd(line)
	got := impl.ParseCmd(line)
	askCmd(t, fmt.Sprintf("%.200q", line), got, code, c)
	if got.Code != impl.OK {
		return false
	}
	askText(t, fmt.Sprintf("%q, told again", line), impl.CmdText(got.Cmd), impl.OK, line)
	askCode(t, line, impl.CmdFault(got.Cmd), impl.OK)
	return true
}

func TestLinesThatAreReadAreToldSoAgain(t *testing.T) {
	read := 0
	count := func(line string) {
		if askAsCmd(t, line) {
			read++
		}
	}
	between := func(ahead, behind string) func(text string) {
		return func(text string) { count(ahead + text + behind) }
	}
	eachWords([]string{"a", "noop", "make", "in", "1", "copy", "close", ""}, 5, count)
	eachText("a19 A", 5, between("", " noop"))
	eachText("az 1", 5, between("a make ", ""))
	eachText("19:*,", 5, between("a flag ", " set 0"))
	eachText("0169-", 3, between("a flag * more ", ""))
	eachText("0169 ", 4, between("a add in ", " 0 YQ=="))
	eachText("019-", 5, between("a add in 0 ", " YQ=="))
	eachText("AQg/=", 5, between("a add in 0 0 ", ""))
	eachRow([]string{"AAAA", "QQ==", "QR==", "A/8=", "A", "="}, 4, between("a add in 0 0 ", ""))
	eachText("0129.", 6, between("a fetch 1 text ", ""))
	eachRow([]string{"body", "size", " ", "0", "1", "."}, 5, between("a fetch 1 ", ""))
	eachRow([]string{"date", "size", " ", "up", "down", "all"}, 5, between("a sort ", ""))
	eachRow([]string{"all", "not", " ", "subject", "or"}, 5, between("a search ", ""))
	for _, line := range noCmds() {
		askAsCmd(t, line)
	}
	if read < 1000 {
		t.Errorf("only %d lines were commands", read)
	}
}

func TestLinesWithAnotherLetter(t *testing.T) {
	draw := rand.New(rand.NewSource(22))
	letters := "0123456789*:,. =+-aAzn\x00\n\x7f\xff\xc3\xa4 ;/"
	read := 0
	for range 4000 {
		line := wantCmdText(anyCmd(draw))
		at := draw.Intn(min(len(line), 40))
		letter := letters[draw.Intn(len(letters))]
		for _, other := range []string{line[:at] + string([]byte{letter}) + line[at+1:], line[:at] + string([]byte{letter}) + line[at:], line[:at] + line[at+1:], line[:at], line[at:], line + string([]byte{letter})} {
			if askAsCmd(t, other) {
				read++
			}
		}
	}
	if read < 2000 {
		t.Errorf("only %d lines were commands", read)
	}
}

func TestLinesWithAWordMore(t *testing.T) {
	draw := rand.New(rand.NewSource(23))
	more := []string{"a", "noop", "in", "1", "0", "*", "", "set", "body", "flags", "1.2", "all", "not", "date", "up", "down", "YQ==", "i;octet", "x", "A"}
	read := 0
	for range 4000 {
		words := strings.Split(wantCmdText(anyCmd(draw)), " ")
		at := draw.Intn(len(words))
		word := more[draw.Intn(len(more))]
		for _, other := range [][]string{slices.Insert(slices.Clone(words), at, word), slices.Delete(slices.Clone(words), at, at+1), slices.Replace(slices.Clone(words), at, at+1, word), append(slices.Clone(words), word)} {
			if askAsCmd(t, strings.Join(other, " ")) {
				read++
			}
		}
		// Each word in capitals, and each two of them the other way round.
		large := slices.Clone(words)
		large[at] = strings.ToUpper(large[at])
		askAsCmd(t, strings.Join(large, " "))
		if at > 0 {
			words[at], words[at-1] = words[at-1], words[at]
			askAsCmd(t, strings.Join(words, " "))
		}
	}
	if read < 500 {
		t.Errorf("only %d lines were commands", read)
	}
}
