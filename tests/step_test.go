package tests

import (
	"fmt"
	"regexp"
	"slices"
	"strconv"
	"strings"
	"testing"

	"loop.example/g00447/impl"
)

var sessionLines = regexp.MustCompile(`(?s)\A([123])>(.*)\z`)
var crashLines = regexp.MustCompile(`\Acrash (0|[1-9][0-9]{0,3})\z`)

// wantStep goes by the document's words.
func wantStep(w impl.World, line string) impl.ScriptResult {
	fault := wantWorldFault(w)
	asks, crash := sessionLines.FindStringSubmatch(line), crashLines.FindStringSubmatch(line)
	isOther := slices.Contains([]string{"", "recover", "show"}, line)
	if code := firstCode(asked{fault != 0, fault}, asked{strings.Contains(line, "\n") || asks == nil && crash == nil && !isOther, impl.ErrText}); code != impl.OK {
		return impl.ScriptResult{Code: code}
	}
	switch {
	case asks != nil:
		who, _ := strconv.ParseInt(asks[1], 10, 64)
		r := wantHandled(w, who-1, asks[2])
		said := ""
		for _, line := range r.Lines {
			said += line + "\n"
		}
		return impl.ScriptResult{Code: r.Code, World: r.World, Said: said}
	case crash != nil:
		kept, _ := strconv.ParseInt(crash[1], 10, 64)
		return wantFell(wantCrash(w, kept))
	case line == "recover":
		return wantFell(wantRecovered(w))
	case line == "show" && !w.Vault.Up:
		return impl.ScriptResult{Code: impl.ErrState}
	case line == "show":
		return impl.ScriptResult{World: w, Said: wantStoreText(w.Vault.Store).Text}
	}
	return impl.ScriptResult{World: w}
}

func wantFell(r impl.WorldResult) impl.ScriptResult {
	if r.Code != impl.OK {
		return impl.ScriptResult{Code: r.Code}
	}
	return impl.ScriptResult{World: r.World, Said: "ok"}
}

func askScript(t *testing.T, what string, got, want impl.ScriptResult) {
	t.Helper()
	if got.Code != want.Code || got.Said != want.Said || worldText(got.World) != worldText(want.World) {
		t.Errorf("%s:\ngot  code %d, %q, %.1500s\nwant code %d, %q, %.1500s", what, got.Code, got.Said, worldText(got.World), want.Code, want.Said, worldText(want.World))
	}
}

// askStep asks what the words of the document say, and that a world that is answered has no fault.
func askStep(t *testing.T, what string, w impl.World, line string) impl.ScriptResult {
	t.Helper()
	what = fmt.Sprintf("%s: %.200q", what, line)
	got := impl.StepScript(w, line)
	askScript(t, what, got, wantStep(w, line))
	if got.Code == impl.OK {
		askCode(t, what, impl.WorldFault(got.World), impl.OK)
	}
	return got
}

// scriptWorlds are Up or not, with nothing, something Loose, and journals that end in the middle of an op or cannot be done.
func scriptWorlds() map[string]impl.World {
	in := session("in", 1, 1, 2)
	return map[string]impl.World{
		"nothing":                       newWorld(2),
		"all is Sure":                   world(upVault(deeds()[:6], nil), in, impl.Session{Box: "old", Validity: 2, Seen: []int64{1, 2}, Cmp: 2}, session("", 0)),
		"some is Loose":                 world(upVault(deeds()[:3], deeds()[3:6]), in, session("", 0)),
		"as much as can be":             world(upVault(append(opsOfBox(6, 1, 2, 3, 4, 5, 6), makeOp("old"), makeOp("z")), nil), session("in", 1, 1, 2, 3, 4, 5, 6)),
		"down with nothing":             world(impl.Vault{}, session("", 0)),
		"down":                          world(downVault(wantPackedAll(deeds())), in, session("", 0), session("", 0)),
		"down, something behind":        world(downVault(wantPackedAll(deeds()[:6])+"\x00\x10"), in, session("", 0)),
		"down, what cannot be done":     world(downVault(wantPackedAll(deeds()[1:])), session("", 0), session("", 0)),
		"down, with more ops than many": world(downVault(wantPackedAll(countless(61))), session("", 0)),
	}
}

// faultyWorlds have each fault that a world can have.
func faultyWorlds() []impl.World {
	up := upVault(deeds()[:6], nil)
	list := []impl.World{{}, world(up), world(up, make([]impl.Session, 4)...), world(up, session("in", 1000)), world(up, session("in", 1), session("", 1)), world(impl.Vault{}), world(impl.Vault{}, session("In", 1))}
	for _, v := range faultyVaults() {
		list = append(list, world(v, session("in", 1, 1)))
	}
	return list
}

// noStepLines are lines that tell nothing, whatever world there is.
func noStepLines() []string {
	return []string{
		" ", "  ", "\t", "\r", "\x00", "\xff", "ä", ".", ">", ">>", "> ", "wink", "noop", "a noop", "help", "ok", "box", "none", "message", "!", "#", "0", "1", "2", "3", "4", "12", "-1",
		"0>", "4>", "5>", "9>", "0>a noop", "4>a noop", "1", "1 ", "1 >", "1 > a noop", "1 >a noop", " 1>", " 1>a noop", "\t1>a noop", "12>", "12>a noop", "11>", "01>", "001>a noop", "00>", "+1>", "-1>a noop", "1.>", "1:a noop", "1<a noop", "1a>noop", "a>noop", "a1>noop", "x>", "\u0661>a noop", "\xb9>a noop", "one>a noop", "1\x00>a noop", "\x001>a noop", "18446744073709551617>a noop", "4294967297>a noop",
		"crash", "crash ", "crash  ", "crash 00", "crash 01", "crash 000", "crash 0001", "crash 00000", "crash 10000", "crash 99999", "crash 100000", "crash -1", "crash -0", "crash +1", "crash +0", "crash x", "crash 0x1", "crash 1x", "crash  0", "crash   0", "crash 0 ", "crash 0 0", " crash 0", "crash\t0", "crash 0\t", "crash\t 0", "crash 0\r", "crash 0.0", "crash 1e1", "crash 1_0", "crash ,", "crash 4294967296", "crash 18446744073709551616", "crash 9223372036854775808", "crash " + strings.Repeat("0", 1<<16), "crash " + strings.Repeat("9", 1<<16), "crash0", "crash0 ", "Crash 0", "CRASH 0", "crashed 0", "cras 0", "crash\x000", "crash \u0660",
		"recover ", " recover", "Recover", "RECOVER", "recove", "recovers", "recover 0", "recover\r", "recover\x00", "recover\t", "rec over", "recover recover",
		"show ", " show", "Show", "SHOW", "sho", "shows", "show in", "show\r", "show\x00", "show\t", "show show", "show>", ">show",
		strings.Repeat(" ", 1<<16), strings.Repeat("show", 1<<12), strings.Repeat(">", 1<<16), strings.Repeat("1", 1<<16) + ">",
	}
}

// stepLines are lines that tell something in some worlds, at least.
func stepLines() []string {
	list := []string{"", "recover", "show", "crash 0", "crash 1", "crash 9", "crash 10", "crash 99", "crash 100", "crash 1000", "crash 9999", "crash 16", "crash 42"}
	for _, who := range []string{"1>", "2>", "3>"} {
		list = append(list, who, who+" ", who+"a", who+"a noop", who+" a noop", who+"a noop ", who+"a noop\r", who+"noop", who+"* noop", who+"wink", who+"a wink", who+"1>a noop", who+">", who+"show", who+"recover", who+"crash 0", who+"\x00\xff", who+"ä", who+"a\tnoop", who+strings.Repeat("a", 1<<12))
		list = append(list, who+"b select in", who+"b select old", who+"b select none", who+"c fetch 1:* flags", who+"c fetch 1:* body 0", who+"d add in 1 7 SGk=", who+"d copy 1:* old", who+"d move 1 old", who+"e make new", who+"e erase in", who+"f flag * set 8", who+"f purge", who+"g search all", who+"g sort date down all", who+"h close", who+"h compare i;unicode-casemap")
		for _, c := range someCmds() {
			list = append(list, who+impl.CmdText(c).Text)
		}
	}
	return list
}

func TestStepsByHand(t *testing.T) {
	up := scriptWorlds()["some is Loose"]
	loose := len(up.Vault.Loose)
	for _, by := range []struct {
		world, line string
		code        int64
		said        string
	}{
		{"nothing", "", impl.OK, ""}, {"down", "", impl.OK, ""}, {"nothing", "show", impl.OK, "none\n"}, {"down", "show", impl.ErrState, ""},
		{"all is Sure", "show", impl.OK, "box in 1 3\nmessage 1 6 2 1\nmessage 2 8 9999 2\nbox old 2 3\nmessage 1 6 2 1\nmessage 2 8 9999 2\n"},
		{"some is Loose", "show", impl.OK, "box in 1 3\nmessage 1 6 2 1\nmessage 2 8 9999 2\nbox old 2 3\nmessage 1 6 2 1\nmessage 2 8 9999 2\n"},
		{"nothing", "recover", impl.ErrState, ""}, {"some is Loose", "recover", impl.ErrState, ""}, {"down", "recover", impl.OK, "ok"}, {"down with nothing", "recover", impl.OK, "ok"}, {"down, something behind", "recover", impl.OK, "ok"}, {"down, what cannot be done", "recover", impl.ErrNone, ""}, {"down, with more ops than many", "recover", impl.ErrMany, ""},
		{"nothing", "crash 0", impl.OK, "ok"}, {"nothing", "crash 1", impl.ErrRange, ""}, {"nothing", "crash 9999", impl.ErrRange, ""}, {"some is Loose", "crash 0", impl.OK, "ok"}, {"some is Loose", fmt.Sprint("crash ", loose), impl.OK, "ok"}, {"some is Loose", fmt.Sprint("crash ", loose+1), impl.ErrRange, ""}, {"down", "crash 0", impl.ErrState, ""}, {"down", "crash 9999", impl.ErrState, ""},
		{"nothing", "1>a noop", impl.OK, "a ok\n"}, {"nothing", "2>a noop", impl.OK, "a ok\n"}, {"nothing", "3>a noop", impl.ErrRange, ""}, {"all is Sure", "3>a noop", impl.OK, "a ok\n"}, {"as much as can be", "2>a noop", impl.ErrRange, ""}, {"down", "1>a noop", impl.ErrState, ""}, {"down", "3>a noop", impl.ErrState, ""}, {"down with nothing", "3>a noop", impl.ErrState, ""},
		// With nothing behind it, and with what is no command, a session is answered.
		{"nothing", "1>", impl.OK, "* bad\n"}, {"nothing", "2>", impl.OK, "* bad\n"}, {"nothing", "3>", impl.ErrRange, ""}, {"nothing", "1>a", impl.OK, "a bad\n"}, {"nothing", "1> a noop", impl.OK, "* bad\n"}, {"nothing", "1>a wink", impl.OK, "a bad\n"}, {"nothing", "1>1>a noop", impl.OK, "* bad\n"}, {"nothing", "1>show", impl.OK, "show bad\n"}, {"nothing", "1>a noop\r", impl.OK, "a bad\n"}, {"down", "1>", impl.ErrState, ""},
		{"nothing", "1>a make in", impl.OK, "a ok\n"}, {"nothing", "1>a select in", impl.OK, "a no 4\n"}, {"all is Sure", "1>a make in", impl.OK, "a no 6\n"}, {"all is Sure", "2>b purge", impl.OK, "* gone 2\nb ok\n"}, {"all is Sure", "3>c select in", impl.OK, "* exists 2\n* valid 1\nc ok\n"}, {"all is Sure", "1>d fetch 1:* size", impl.OK, "* 1 size 1\n* 2 size 2\nd ok\n"}, {"all is Sure", "1>d search flag deleted", impl.OK, "* found 2\nd ok\n"}, {"all is Sure", "1>e erase in", impl.OK, "* closed\ne ok\n"}, {"all is Sure", "3>f add old 15 9999 AA==", impl.OK, "* added 3\nf ok\n"},
	} {
		w := scriptWorlds()[by.world]
		got := askStep(t, by.world, w, by.line)
		if got.Code != by.code || got.Said != by.said {
			t.Errorf("%s: %q: got code %d, %q, want code %d, %q", by.world, by.line, got.Code, got.Said, by.code, by.said)
		}
	}
}

func TestEachLineInEachWorld(t *testing.T) {
	codes := map[string]int{}
	for what, w := range scriptWorlds() {
		for _, line := range stepLines() {
			kind := strings.TrimLeft(strings.SplitAfter(line+" ", ">")[0], "0123456789")
			codes[fmt.Sprint(strings.Fields(kind + " .")[0], " ", askStep(t, what, w, line).Code)]++
		}
	}
	for _, end := range []string{". 0", "> 0", "> 3", "> 9", "show 0", "show 9", "crash 0", "crash 3", "crash 9", "recover 0", "recover 2", "recover 4", "recover 9"} {
		if codes[end] == 0 {
			t.Errorf("no line ends so: %s (%v)", end, codes)
		}
	}
	if len(codes) != 13 {
		t.Errorf("got these ends: %v", codes)
	}
}

func TestLinesThatTellNothing(t *testing.T) {
	for what, w := range scriptWorlds() {
		for _, line := range noStepLines() {
			askScript(t, fmt.Sprintf("%s: %.100q", what, line), impl.StepScript(w, line), impl.ScriptResult{Code: impl.ErrText})
			askCode(t, fmt.Sprintf("%.100q, by the words", line), wantStep(w, line).Code, impl.ErrText)
		}
	}
}

func TestALineHasNoLineFeed(t *testing.T) {
	for what, w := range scriptWorlds() {
		for _, line := range append(stepLines(), "wink", "crash", "4>") {
			for _, at := range []int{0, 1, 2, len(line) / 2, len(line) - 1, len(line)} {
				if at < 0 || at > len(line) {
					continue
				}
				other := line[:at] + "\n" + line[at:]
				askScript(t, fmt.Sprintf("%s: %.100q", what, other), impl.StepScript(w, other), impl.ScriptResult{Code: impl.ErrText})
			}
		}
		askScript(t, what, impl.StepScript(w, "show\nshow"), impl.ScriptResult{Code: impl.ErrText})
		askScript(t, what, impl.StepScript(w, strings.Repeat("\n", 1<<16)), impl.ScriptResult{Code: impl.ErrText})
	}
}

func TestStepsOfWorldsWithAFault(t *testing.T) {
	codes := map[int64]int{}
	for i, w := range faultyWorlds() {
		fault := wantWorldFault(w)
		codes[fault]++
		// The fault comes first, whatever the line is.
		for _, line := range slices.Concat(stepLines()[:30], noStepLines(), []string{"\n", "show\n"}) {
			askScript(t, fmt.Sprintf("world %d: %.100q", i, line), impl.StepScript(w, line), impl.ScriptResult{Code: fault})
		}
	}
	for _, code := range []int64{impl.ErrForm, impl.ErrMany, impl.ErrRange, impl.ErrText, impl.ErrState} {
		if codes[code] == 0 {
			t.Errorf("no world has the code %d", code)
		}
	}
	if codes[impl.OK] != 0 {
		t.Error("a world has no fault")
	}
}

func TestEachNumberOfACrash(t *testing.T) {
	w := world(upVault(bulk(6000)[:3], bulk(6000)[3:]), session("a", 1, 1))
	loose := len(w.Vault.Loose)
	for n := range 10100 {
		line := fmt.Sprint("crash ", n)
		got := impl.StepScript(w, line)
		switch {
		case n > 9999:
			askScript(t, line, got, impl.ScriptResult{Code: impl.ErrText})
		case n > loose:
			askScript(t, line, got, impl.ScriptResult{Code: impl.ErrRange})
		default:
			askCode(t, line, got.Code, impl.OK)
			if got.Said != "ok" || len(got.World.Vault.Sure) != len(w.Vault.Sure)+n || got.World.Vault.Up {
				t.Fatalf("%s: got %q, %d bytes", line, got.Said, len(got.World.Vault.Sure))
			}
		}
	}
}

func TestLinesOfAnyLetters(t *testing.T) {
	worlds := []impl.World{newWorld(2), world(downVault(""), session("", 0))}
	told := 0
	for _, words := range [][]string{{"1", "3", "4", ">", " ", "a noop", "\n"}, {"crash", " ", "0", "1", "-", "recover", "show"}} {
		eachRow(words, 4, func(line string) {
			for _, w := range worlds {
				if askStep(t, "any", w, line).Code != impl.ErrText {
					told++
				}
			}
		})
	}
	if told < 150 {
		t.Errorf("only %d lines told anything", told)
	}
	for _, line := range []string{"show", "recover", "crash 0", "1>a noop"} {
		for b := range 256 {
			letter := string([]byte{byte(b)})
			for at := range len(line) + 1 {
				askStep(t, "a byte more", worlds[0], line[:at]+letter+line[at:])
				if at < len(line) {
					askStep(t, "another byte", worlds[0], line[:at]+letter+line[at+1:])
				}
			}
		}
	}
}
