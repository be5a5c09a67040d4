package tests

import (
	"fmt"
	"math/rand"
	"slices"
	"strings"
	"testing"

	"loop.example/g00447/impl"
)

// wantLines are what line feeds end, and what is behind the last one, where it is anything.
func wantLines(text string) []string {
	lines := strings.Split(text, "\n")
	if last := len(lines) - 1; lines[last] == "" {
		return lines[:last]
	}
	return lines
}

// wantScript goes by the document's words.
func wantScript(w impl.World, text string) impl.ScriptResult {
	fault, lines := wantWorldFault(w), wantLines(text)
	if code := firstCode(asked{fault != 0, fault}, asked{len(text) > 1600 || len(lines) > 20, impl.ErrMany}); code != impl.OK {
		return impl.ScriptResult{Code: code}
	}
	said := ""
	for _, line := range lines {
		done := wantStep(w, line)
		if done.Code != impl.OK {
			said += fmt.Sprintf("! %d\n", done.Code)
			continue
		}
		w, said = done.World, said+done.Said
		if done.Said == "ok" {
			said += "\n"
		}
	}
	return impl.ScriptResult{World: w, Said: said}
}

// askRun asks what the words of the document say, and that a world that is answered has no fault.
func askRun(t *testing.T, what string, w impl.World, text string) impl.ScriptResult {
	t.Helper()
	what = fmt.Sprintf("%s: %.1700q", what, text)
	got := impl.RunScript(w, text)
	askScript(t, what, got, wantScript(w, text))
	if got.Code == impl.OK {
		askCode(t, what, impl.WorldFault(got.World), impl.OK)
		if got.Said != "" && !strings.HasSuffix(got.Said, "\n") {
			t.Errorf("%s: what is said does not end with a line feed: %q", what, got.Said)
		}
	}
	return got
}

// askCuts cuts a script behind each of its line feeds: both parts, one behind the other, say and leave what it says and leaves.
func askCuts(t *testing.T, what string, w impl.World, text string) {
	t.Helper()
	whole := askRun(t, what, w, text)
	if whole.Code != impl.OK {
		return
	}
	for at := range len(text) + 1 {
		if at > 0 && text[at-1] != '\n' {
			continue
		}
		first := impl.RunScript(w, text[:at])
		second := impl.RunScript(first.World, text[at:])
		askScript(t, fmt.Sprintf("%s: %q cut at %d", what, text, at), impl.ScriptResult{Code: first.Code + second.Code, World: second.World, Said: first.Said + second.Said}, whole)
	}
}

// handScripts are scripts that begin with nothing, and what they say, by hand.
var handScripts = []struct{ what, text, want string }{
	{"nothing", "", ""}, {"an empty line", "\n", ""}, {"empty lines", "\n\n\n", ""},
	{"a line that ends", "show\n", "none\n"}, {"a line that does not end", "show", "none\n"}, {"empty lines around", "\n\nshow\n\nshow\n\n", "none\nnone\n"}, {"an empty line ahead", "\nshow", "none\n"},
	{"a line that tells nothing", "wink", "! 5\n"}, {"a blank", " \n", "! 5\n"}, {"a byte 13", "show\r\nshow\n", "! 5\nnone\n"}, {"bytes 13", "\r\n\r\n", "! 5\n! 5\n"}, {"a byte 13 of who is answered", "1>a noop\r\n1>a noop\n", "a bad\na ok\n"}, {"a byte 13 as an end", "show\rshow", "! 5\n"},
	{"who says nothing", "1>\n2>\n3>\n", "* bad\n* bad\n! 3\n"}, {"nobody", "0>a noop\n4>a noop\n12>a noop\n", "! 5\n! 5\n! 5\n"}, {"a crash too large", "crash 1\nshow\n", "! 3\nnone\n"}, {"a recovery of what is Up", "recover\nshow\n", "! 9\nnone\n"},
	{"a crash and a recovery", "crash 0\nrecover\n", "ok\nok\n"}, {"the last one does not end", "crash 0\nrecover", "ok\nok\n"}, {"a crash alone", "crash 0", "ok\n"}, {"while it is down", "crash 0\nshow\n1>a noop\n3>a noop\ncrash 0\ncrash 9999\n\nwink\nrecover\nshow\n", "ok\n! 9\n! 9\n! 9\n! 9\n! 9\n! 5\nok\nnone\n"},
	{"a mailbox", "1>a make in\nshow\n1>a make in\n", "a ok\nbox in 1 1\na no 6\n"},
	{"a talk of two", "1>a make in\n1>b select in\n2>c add in 1 7 SGk=\n1>d noop\n1>e fetch 1 size\nshow\ncrash 0\nshow\nrecover\n1>f purge\nshow\n3>x noop\nwink\n", "a ok\n* exists 0\n* valid 1\nb ok\n* added 1\nc ok\n* exists 1\nd ok\n* 1 size 2\ne ok\nbox in 1 2\nmessage 1 1 7 2\nok\n! 9\nok\nf no 9\nbox in 1 2\nmessage 1 1 7 2\n! 3\n! 5\n"},
	{"what was done is there behind a crash", "1>a make in\n1>a add in 9 9999 YQ==\n1>a make old\n1>a select in\n1>a copy 1 old\n1>a purge\ncrash 0\nrecover\n1>a noop\nshow\n2>b select old\n2>b fetch 1 bytes 0\n2>b fetch 1 flags", "a ok\n* added 1\na ok\na ok\n* exists 1\n* valid 1\na ok\n* copied 1\na ok\n* gone 1\na ok\nok\nok\na ok\nbox in 1 2\nbox old 2 2\nmessage 1 9 9999 1\n* exists 1\n* valid 2\nb ok\n* 1 bytes YQ==\nb ok\n* 1 flags 9\nb ok\n"},
	{"two who are told", "1>a make in\n1>a select in\n2>a select in\n2>b add in 8 1 Cg==\n1>c flag 1 more 1\n1>d search all\n1>e noop\n2>f purge\n1>g fetch 1 flags\n1>h close\n1>h close\n2>i erase in\nshow\n", "a ok\n* exists 0\n* valid 1\na ok\n* exists 0\n* valid 1\na ok\n* added 1\n* exists 1\nb ok\nc ok\n* found\nd ok\n* exists 1\ne ok\n* gone 1\nf ok\ng ok\n* closed\nh ok\nh ok\n* closed\ni ok\nnone\n"},
}

func TestScriptsByHand(t *testing.T) {
	for _, by := range handScripts {
		got := askRun(t, by.what, newWorld(2), by.text)
		if got.Code != impl.OK || got.Said != by.want {
			t.Errorf("%s: got code %d, %q, want %q", by.what, got.Code, got.Said, by.want)
		}
	}
}

func TestHowLongAScriptMayBe(t *testing.T) {
	w := newWorld(1)
	for _, by := range []struct {
		what, text string
		code       int64
	}{
		{"1600 bytes in a line", strings.Repeat("a", 1600), impl.OK}, {"1601 bytes in a line", strings.Repeat("a", 1601), impl.ErrMany}, {"1599 bytes and a line feed", strings.Repeat("a", 1599) + "\n", impl.OK}, {"1600 bytes and a line feed", strings.Repeat("a", 1600) + "\n", impl.ErrMany}, {"a line feed and 1600 bytes", "\n" + strings.Repeat("a", 1600), impl.ErrMany},
		{"19 lines", strings.Repeat("show\n", 19), impl.OK}, {"20 lines", strings.Repeat("show\n", 20), impl.OK}, {"20 lines, the last one does not end", strings.Repeat("show\n", 19) + "show", impl.OK}, {"21 lines", strings.Repeat("show\n", 21), impl.ErrMany}, {"21 lines, the last one does not end", strings.Repeat("show\n", 20) + "show", impl.ErrMany}, {"20 lines and a blank", strings.Repeat("show\n", 20) + " ", impl.ErrMany},
		// A text that ends with a line feed has no line behind it, but another line feed ends one that is empty.
		{"20 line feeds", strings.Repeat("\n", 20), impl.OK}, {"21 line feeds", strings.Repeat("\n", 21), impl.ErrMany}, {"20 lines and an empty one", strings.Repeat("show\n", 20) + "\n", impl.ErrMany}, {"19 lines and an empty one", strings.Repeat("show\n", 19) + "\n", impl.OK}, {"an empty line and 20", "\n" + strings.Repeat("show\n", 20), impl.ErrMany}, {"20 empty lines and one that does not end", strings.Repeat("\n", 20) + "a", impl.ErrMany}, {"19 empty lines and one that does not end", strings.Repeat("\n", 19) + "a", impl.OK},
		{"20 lines of 80 bytes", strings.Repeat(strings.Repeat("a", 79)+"\n", 20), impl.OK}, {"20 lines of 80 bytes and one byte in the last one more", strings.Repeat(strings.Repeat("a", 79)+"\n", 19) + strings.Repeat("a", 81), impl.ErrMany}, {"20 lines of 80 bytes and a line feed", strings.Repeat(strings.Repeat("a", 79)+"\n", 20) + "\n", impl.ErrMany},
		{"1600 line feeds", strings.Repeat("\n", 1600), impl.ErrMany}, {"1601 line feeds", strings.Repeat("\n", 1601), impl.ErrMany}, {"very many", strings.Repeat("\n", 1<<20), impl.ErrMany}, {"very many bytes", strings.Repeat("show", 1<<20), impl.ErrMany},
	} {
		got := askRun(t, by.what, w, by.text)
		askCode(t, by.what, got.Code, by.code)
		if by.code == impl.OK && strings.Count(got.Said, "\n") > 20 {
			t.Errorf("%s: got %q", by.what, got.Said)
		}
		// What is too long does nothing at all, also where its first lines would.
		if by.code == impl.ErrMany {
			askScript(t, by.what+" behind a line", impl.RunScript(w, "1>a make in\n"+by.text), impl.ScriptResult{Code: impl.ErrMany})
		}
	}
	for n := range 1700 {
		askCode(t, fmt.Sprint(n, " bytes"), impl.RunScript(w, strings.Repeat("x", n)).Code, firstCode(asked{n > 1600, impl.ErrMany}))
	}
	for n := range 40 {
		for _, line := range []string{"", "show", "wink", "1>a noop"} {
			askCode(t, fmt.Sprint(n, " lines"), impl.RunScript(w, strings.Repeat(line+"\n", n)).Code, firstCode(asked{n > 20, impl.ErrMany}))
			askCode(t, fmt.Sprint(n, " lines"), impl.RunScript(w, strings.Repeat("\n", n)+line).Code, firstCode(asked{n > 20 || n == 20 && line != "", impl.ErrMany}))
		}
	}
}

func TestAFaultOfTheWorldComesAheadOfTheScript(t *testing.T) {
	for i, w := range faultyWorlds() {
		fault := wantWorldFault(w)
		for _, text := range []string{"", "\n", "show\n", "wink\n", "recover\ncrash 0", strings.Repeat("a", 1601), strings.Repeat("\n", 21), strings.Repeat("show\n", 1<<10)} {
			askScript(t, fmt.Sprintf("world %d: %.40q", i, text), impl.RunScript(w, text), impl.ScriptResult{Code: fault})
		}
	}
	// How long it is comes ahead of what its lines tell, and of whether the vault is Up.
	for what, w := range scriptWorlds() {
		for _, text := range []string{strings.Repeat("a", 1601), strings.Repeat("recover\n", 21), strings.Repeat("1>a noop\n", 21)} {
			askScript(t, what, impl.RunScript(w, text), impl.ScriptResult{Code: impl.ErrMany})
		}
	}
}

func TestALineWithACodeLeavesTheWorldAsItWas(t *testing.T) {
	for what, w := range scriptWorlds() {
		for _, line := range append(stepLines(), noStepLines()...) {
			if len(line) > 700 {
				continue
			}
			step, run := impl.StepScript(w, line), askRun(t, what, w, line+"\n")
			if step.Code != impl.OK {
				askScript(t, fmt.Sprintf("%s: %q", what, line), run, impl.ScriptResult{World: w, Said: fmt.Sprintf("! %d\n", step.Code)})
			}
			// The lines behind it go on from there.
			rest := "\n2>z make z\nrecover\ncrash 0\nshow\n1>y close"
			behind := impl.RunScript(run.World, rest[1:])
			askScript(t, fmt.Sprintf("%s: %q and lines behind it", what, line), impl.RunScript(w, line+rest), impl.ScriptResult{World: behind.World, Said: run.Said + behind.Said})
		}
	}
}

func TestWhatIsSaidOfAWorldIsWhatItIs(t *testing.T) {
	for what, w := range scriptWorlds() {
		got := askRun(t, what, w, "show\n")
		if !w.Vault.Up {
			askScript(t, what, got, impl.ScriptResult{World: w, Said: "! 9\n"})
			continue
		}
		askScript(t, what, got, impl.ScriptResult{World: w, Said: impl.StoreText(w.Vault.Store).Text})
		if read := withoutData(readStore(t, got.Said)); read != withoutData(w.Vault.Store.Boxes) {
			t.Errorf("%s: got %s, want %s", what, read, withoutData(w.Vault.Store.Boxes))
		}
	}
}

func TestEachScriptInEachWorldCutBehindItsLineFeeds(t *testing.T) {
	for what, w := range scriptWorlds() {
		for _, by := range handScripts {
			askCuts(t, what+", "+by.what, w, by.text)
			askCuts(t, what+", "+by.what+", without its end", w, strings.TrimSuffix(by.text, "\n"))
		}
		lines := stepLines()
		for at := 0; at < len(lines); at += 7 {
			some := lines[at:min(at+7, len(lines))]
			askCuts(t, what+", lines", w, strings.Join(some, "\n"))
			slices.Reverse(some)
			askCuts(t, what+", lines the other way round", w, strings.Join(some, "\n\n")+"\n")
		}
	}
}

// anyScript are lines that may tell something in a world of three mailboxes, and some that do not.
func anyScript(draw *rand.Rand) string {
	var text strings.Builder
	for range draw.Intn(21) {
		switch draw.Intn(24) {
		case 0:
			fmt.Fprintf(&text, "crash %d", draw.Intn(2))
		case 1, 2, 3:
			text.WriteString("recover")
		case 4, 5:
			text.WriteString("show")
		case 6:
		case 7:
			text.WriteString([]string{"wink", "0>a noop", "1 >a noop", "4>a noop", "crash 00", "show ", "1>", "\r"}[draw.Intn(8)])
		default:
			fmt.Fprintf(&text, "%d>%s", 1+draw.Intn(3), anyLine(draw))
		}
		text.WriteString("\n")
	}
	return strings.TrimSuffix(text.String(), strings.Repeat("\n", draw.Intn(2)))
}

func TestAnyScriptsCutBehindTheirLineFeeds(t *testing.T) {
	said := map[string]int{}
	for seed := range int64(60) {
		draw := rand.New(rand.NewSource(seed))
		w := impl.RunScript(newWorld(1+seed%3), "1>a make in\n1>a make old\n1>a add in 0 5 Cg==\n1>a select in\n").World
		for range 12 {
			text := anyScript(draw)
			askCuts(t, fmt.Sprint("seed ", seed), w, text)
			// One script goes on from where the one ahead of it left the world.
			got := impl.RunScript(w, text)
			for _, line := range strings.Split(got.Said, "\n") {
				said[strings.Join(strings.Fields(line + " .")[:1], "")]++
			}
			if got.Code == impl.OK {
				w = got.World
			}
			if t.Failed() {
				return
			}
		}
	}
	for _, word := range []string{"!", "*", "a", "ok", "box", "message"} {
		if said[word] < 50 {
			t.Errorf("only %d lines begin with %s", said[word], word)
		}
	}
}

func TestAScriptThatSaysMuch(t *testing.T) {
	// What is said has no bound: nothing is cut off.
	letter := impl.EncodeBase(someBytes(396)).Text
	w := impl.RunScript(newWorld(3), "1>a make in\n1>a add in 0 0 "+letter+"\n1>a add in 0 0 "+letter+"\n").World
	w = impl.RunScript(w, "2>a add in 0 0 "+letter+"\n2>a add in 0 0 "+letter+"\n2>a select in").World
	w = impl.RunScript(w, "3>a add in 0 0 "+letter+"\n3>a add in 0 0 "+letter+"\n").World
	got := askRun(t, "twenty lines that say much", w, "3>a select in\n"+strings.Repeat("3>a fetch 1:* body 0\n", 19))
	if size := len(got.Said); size < 19*6*(len(letter)-80) || strings.Count(got.Said, "\n") != 3+19*7 {
		t.Errorf("got %d bytes, %d lines", size, strings.Count(got.Said, "\n"))
	}
	askScript(t, "nothing is turned by it", impl.RunScript(got.World, "show"), impl.ScriptResult{World: got.World, Said: impl.StoreText(w.Vault.Store).Text})
}
