package tests

import (
	"fmt"
	"maps"
	"slices"
	"strconv"
	"testing"

	"loop.example/g00447/impl"
)

func cmdArguments() []impl.Cmd {
	list := slices.Concat(someCmds(), faultyCmds())
	others := otherCmds()
	for _, what := range slices.Sorted(maps.Keys(others)) {
		list = append(list, others[what])
	}
	for _, n := range numberArguments() {
		list = append(list, impl.Cmd{Tag: "a", Kind: n}, flagCmd(set(1, 1), n, 1), flagCmd(set(1, 1), 1, n), flagCmd(set(1, n), 1, 1), addCmd("in", n, 0, "a"), addCmd("in", 0, n, "a"), fetchCmd(n), fetchCmd(impl.WhatBody, n), sortCmd(n, true, allTerm()), impl.Cmd{Tag: "a", Kind: impl.CmdCompare, Cmp: n})
	}
	return list
}

func lineArguments() []string {
	list := slices.Concat(nameArguments(), noCmds(), slices.Sorted(maps.Values(whatWords)))
	for _, by := range cmdsByHand {
		list = append(list, by.line)
	}
	return list
}

func cmdAnswer(call string, r impl.CmdResult) answer {
	rest := cmdWhole(r.Cmd)
	if rest == cmdWhole(impl.Cmd{}) {
		rest = ""
	}
	return answer{call, r.Code, rest}
}

func commandAnswers() []answer {
	var list []answer
	cmds := cmdArguments()
	for i, c := range cmds {
		at := " " + strconv.Itoa(i)
		list = append(list, answer{"CmdFault" + at, impl.CmdFault(c), ""}, textAnswer("CmdText"+at, impl.CmdText(c)))
		for k, other := range cmds {
			list = append(list, boolAnswer("SameCmds"+at+" "+strconv.Itoa(k), impl.SameCmds(c, other)))
		}
	}
	for i, line := range lineArguments() {
		at := " " + strconv.Itoa(i)
		list = append(list, cmdAnswer("ParseCmd"+at, impl.ParseCmd(line)), textAnswer("TagOf"+at, impl.TagOf(line)), intAnswer("WhatOf"+at, impl.WhatOf(line)))
	}
	return list
}

// roomyCmd is the same command in new memory, where each list has something behind it that belongs to the caller.
func roomyCmd(c impl.Cmd) impl.Cmd {
	c.Ranges, c.Path, c.Terms = roomySet(c.Ranges), roomyNumbers(c.Path), roomyTerms(c.Terms)
	c.Data = append(slices.Clone(c.Data), "behind"...)[:len(c.Data)]
	return c
}

// tightCmd is the same command in new memory, with nothing behind its lists.
func tightCmd(c impl.Cmd) impl.Cmd {
	c.Ranges, c.Path, c.Terms = slices.Clip(slices.Clone(c.Ranges)), slices.Clip(slices.Clone(c.Path)), slices.Clip(movedTerms(c.Terms, 0))
	c.Data = slices.Clip(slices.Clone(c.Data))
	return c
}

// wholeCmdRoom tells all that a command has, with what is behind its lists.
func wholeCmdRoom(c impl.Cmd) string {
	return cmdWhole(c) + fmt.Sprint(c.Ranges[:cap(c.Ranges)], c.Path[:cap(c.Path)], c.Data[:cap(c.Data)]) + wholeTermsRoom(c.Terms)
}

// wipeCmd clears all lists of a command, and the room behind them.
func wipeCmd(c impl.Cmd) {
	clear(c.Ranges[:cap(c.Ranges)])
	clear(c.Path[:cap(c.Path)])
	clear(c.Data[:cap(c.Data)])
	wipeTerms(c.Terms)
}

func spansOfCmd(what string, c impl.Cmd) []span {
	list := []span{spanOf(what+" Ranges", c.Ranges), spanOf(what+" Path", c.Path), spanOf(what+" Data", c.Data)}
	return append(list, spansOfTerms(what+" Terms", c.Terms)...)
}

func TestCommandsStayAsTheyWere(t *testing.T) {
	for i, c := range cmdArguments() {
		given, other := roomyCmd(c), roomyCmd(c)
		before := wholeCmdRoom(given)
		impl.CmdFault(given)
		impl.CmdText(given)
		impl.SameCmds(given, other)
		impl.SameCmds(other, given)
		impl.SameCmds(given, given)
		impl.SameCmds(given, wholeCmd())
		impl.SameCmds(wholeCmd(), given)
		if wholeCmdRoom(given) != before || wholeCmdRoom(other) != before {
			t.Errorf("command %d was changed", i)
		}
	}
}

func TestAnswersOfCommandsHangOnWhatIsGivenNotOnItsRoom(t *testing.T) {
	for i, c := range cmdArguments() {
		given, tight, what := roomyCmd(c), tightCmd(c), fmt.Sprint("command ", i)
		askCode(t, what, impl.CmdFault(given), impl.CmdFault(tight))
		askSame(t, textAnswer(what, impl.CmdText(given)), textAnswer(what, impl.CmdText(tight)))
		askBool(t, what, impl.SameCmds(given, tight), true)
		askBool(t, what, impl.SameCmds(tight, given), true)
	}
	// What is behind a line that is cut out of a longer one is not its own.
	for _, by := range cmdsByHand {
		for n := range len(by.line) + 1 {
			cut, alone := by.line[:n], string([]byte(by.line[:n]))
			askSame(t, cmdAnswer(cut, impl.ParseCmd(cut)), cmdAnswer(cut, impl.ParseCmd(alone)))
			askSame(t, textAnswer(cut, impl.TagOf(cut)), textAnswer(cut, impl.TagOf(alone)))
			askSame(t, intAnswer(cut, impl.WhatOf(cut)), intAnswer(cut, impl.WhatOf(alone)))
		}
	}
	for _, text := range []string{"flagss", "sizes", "bodyy", "bytess", "texts", "previews", "subjects"} {
		for n := range len(text) + 1 {
			askSame(t, intAnswer(text[:n], impl.WhatOf(text[:n])), intAnswer(text[:n], impl.WhatOf(string([]byte(text[:n])))))
		}
	}
}

func TestNothingAndAnEmptyListAreTheSameCommand(t *testing.T) {
	for i, c := range cmdArguments() {
		empty, what := c, fmt.Sprint("command ", i)
		empty.Ranges, empty.Path = append([]impl.Range{}, c.Ranges...), append([]int64{}, c.Path...)
		empty.Data, empty.Terms = append([]byte{}, c.Data...), append([]impl.Term{}, c.Terms...)
		bare := c
		if len(c.Ranges) == 0 {
			bare.Ranges = nil
		}
		if len(c.Path) == 0 {
			bare.Path = nil
		}
		if len(c.Data) == 0 {
			bare.Data = nil
		}
		if len(c.Terms) == 0 {
			bare.Terms = nil
		}
		askCode(t, what, impl.CmdFault(empty), impl.CmdFault(bare))
		askSame(t, textAnswer(what, impl.CmdText(empty)), textAnswer(what, impl.CmdText(bare)))
		askBool(t, what, impl.SameCmds(empty, bare), true)
		askBool(t, what, impl.SameCmds(bare, empty), true)
	}
}

func TestListsInAnswersOfCommandsAreNewMemory(t *testing.T) {
	for _, by := range cmdsByHand {
		first, second := impl.ParseCmd(by.line), impl.ParseCmd(by.line)
		askApart(t, by.line, append(spansOfCmd("first", first.Cmd), spansOfCmd("second", second.Cmd)...))
	}
	line := "a search and or subject abc subject abc or body abc and uid 1:3,5 uid 1:3,5"
	askApart(t, line, spansOfCmd("twice the same", impl.ParseCmd(line).Cmd))
}

func TestAnswersOfCommandsStayWhateverBecomesOfWhatWasGiven(t *testing.T) {
	for _, c := range someCmds() {
		given := roomyCmd(c)
		text := impl.CmdText(given)
		wipeCmd(given)
		askText(t, cmdWhole(c), text, impl.OK, wantCmdText(c))
		// What is done to an answer is not seen in the next one, nor is what is put behind it.
		first, second := impl.ParseCmd(text.Text), impl.ParseCmd(text.Text)
		_ = append(first.Cmd.Data, "behind"...)
		_ = append(first.Cmd.Path, 7, 7)
		_ = append(first.Cmd.Ranges, set(7, 7)...)
		_ = append(first.Cmd.Terms, allTerm()...)
		askCmd(t, text.Text, first, impl.OK, c)
		wipeCmd(first.Cmd)
		askCmd(t, text.Text, second, impl.OK, c)
		askCmd(t, text.Text, impl.ParseCmd(text.Text), impl.OK, c)
	}
}
