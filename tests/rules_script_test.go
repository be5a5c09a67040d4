package tests

import (
	"fmt"
	"maps"
	"slices"
	"strconv"
	"strings"
	"testing"

	"loop.example/g00447/impl"
)

// scriptLines are one of each kind, and some that are none.
func scriptLines() []string {
	return []string{
		"", "show", "recover", "crash 0", "crash 9", "crash 9999", "1>", "1>a noop", "2>a noop", "3>b select in", "1>c add in 1 7 SGk=", "2>d copy 1:* old", "1>e fetch 1:* body 0", "1>f flag 1:* more 8", "1>g purge", "1>h close",
		" ", "wink", "crash 00", "crash", "4>a noop", "1>a noop\n", "\n", "show ", "\x00\xff", strings.Repeat("a", 1<<16), "crash " + strings.Repeat("9", 1<<12), "1>" + strings.Repeat(" ", 1<<12),
	}
}

func scriptTexts() []string {
	return []string{
		"", "\n", "\n\n", "show", "show\n", "wink\r\nwink", "crash 0\nrecover\n", "crash 0\n1>a noop\nshow\n", "recover\n1>b select in\n1>b move 1 old\n\nshow\n2>c close", "1>a make z\n1>a select z\n2>a add z 0 0 Cg==\n1>a noop\n1>a purge\ncrash 0",
		strings.Repeat("show\n", 20), strings.Repeat("\n", 21), strings.Repeat("a", 1600), strings.Repeat("a", 1601), strings.Repeat("\n", 1<<16),
	}
}

// callsOfScripts are all calls of scripts that give a world, with all that is given beside it.
func callsOfScripts() map[string]func(w impl.World) impl.ScriptResult {
	calls := map[string]func(w impl.World) impl.ScriptResult{}
	for i, line := range scriptLines() {
		calls[fmt.Sprintf("StepScript %d %.60q", i, line)] = func(w impl.World) impl.ScriptResult { return impl.StepScript(w, line) }
	}
	for i, text := range scriptTexts() {
		calls[fmt.Sprintf("RunScript %d %.60q", i, text)] = func(w impl.World) impl.ScriptResult { return impl.RunScript(w, text) }
	}
	return calls
}

func scriptAnswer(call string, r impl.ScriptResult) answer {
	if r.Said == "" && worldText(r.World) == worldText(impl.World{}) {
		return answer{call, r.Code, ""}
	}
	return answer{call, r.Code, fmt.Sprintf("%q %s", r.Said, worldText(r.World))}
}

func scriptAnswers() []answer {
	var list []answer
	calls := callsOfScripts()
	names := slices.Sorted(maps.Keys(calls))
	for i, w := range worldArguments() {
		for _, name := range names {
			list = append(list, scriptAnswer(name+" of "+strconv.Itoa(i), calls[name](w)))
		}
	}
	for i, s := range slices.Concat(storeArguments(), opStores()) {
		list = append(list, textAnswer("StoreText "+strconv.Itoa(i), impl.StoreText(s)))
	}
	for i, line := range slices.Concat(scriptLines(), scriptTexts(), textArguments()) {
		r := impl.WordsOf(line)
		list = append(list, answer{"WordsOf " + strconv.Itoa(i), r.Code, strings.Join(r.Words, "|")})
	}
	return list
}

func TestWorldsOfScriptsStayAsTheyWere(t *testing.T) {
	calls := callsOfScripts()
	for i, w := range worldArguments() {
		given := roomyWorld(w)
		before := wholeWorld(given)
		for what, call := range calls {
			call(given)
			if wholeWorld(given) != before {
				t.Fatalf("%s changed world %d", what, i)
			}
		}
	}
	for i, s := range storeArguments() {
		given := roomy(s)
		before := wholeRoom(given)
		askSame(t, textAnswer("", impl.StoreText(given)), textAnswer("", impl.StoreText(s)))
		if wholeRoom(given) != before {
			t.Errorf("store %d was changed", i)
		}
	}
}

func TestAnswersOfScriptsHangOnWhatIsGivenNotOnItsRoom(t *testing.T) {
	calls := callsOfScripts()
	for i, w := range worldArguments() {
		given := roomyWorld(w)
		for what, call := range calls {
			askScript(t, fmt.Sprint(what, " of world ", i), call(given), call(w))
		}
	}
	// What is behind a line or a text that is cut out of a longer one is not its own.
	w := goodWorlds()[8]
	for _, text := range slices.Concat(scriptLines(), scriptTexts()) {
		for n := range min(len(text), 40) {
			own := string([]byte(text[:n]))
			askScript(t, own, impl.StepScript(w, text[:n]), impl.StepScript(w, own))
			askScript(t, own, impl.RunScript(w, text[:n]), impl.RunScript(w, own))
			askWordsOf(t, text[:n], impl.WordsOf(own).Words...)
		}
	}
}

func TestNothingAndAnEmptyListAreTheSameToScripts(t *testing.T) {
	calls := callsOfScripts()
	for i, w := range goodWorlds() {
		empty, bare := emptyAndBare(w)
		for what, call := range calls {
			askScript(t, fmt.Sprint(what, " of world ", i), call(empty), call(bare))
		}
	}
	some := store(2, impl.Box{Name: "in", Validity: 1, Next: 2, Messages: []impl.Message{}})
	none := store(2, impl.Box{Name: "in", Validity: 1, Next: 2})
	askSame(t, textAnswer("messages", impl.StoreText(some)), textAnswer("messages", impl.StoreText(none)))
}

func TestListsInAnswersOfScriptsAreNewMemory(t *testing.T) {
	calls := callsOfScripts()
	told := map[int64]int{}
	for i, w := range goodWorlds() {
		given := roomyWorld(w)
		for what, call := range calls {
			first, second := call(given), call(given)
			told[first.Code]++
			askApart(t, fmt.Sprint(what, " of world ", i), slices.Concat(spansOfWorld("given", given), spansOfWorld("first", first.World), spansOfWorld("second", second.World)))
		}
	}
	if told[impl.OK] < 300 {
		t.Errorf("only %d calls had an answer", told[impl.OK])
	}
	for _, line := range slices.Concat(scriptLines(), scriptTexts()) {
		first, second := impl.WordsOf(line), impl.WordsOf(line)
		want := slices.Clone(second.Words)
		clear(first.Words[:cap(first.Words)])
		askWordsOf(t, line, want...)
		if !slices.Equal(second.Words, want) {
			t.Errorf("two answers share memory: %.60q", line)
		}
	}
}

func TestAnswersOfScriptsStayWhateverBecomesOfWhatWasGiven(t *testing.T) {
	calls := callsOfScripts()
	for i, w := range goodWorlds() {
		given := roomyWorld(w)
		before := wholeWorld(given)
		want, got := map[string]answer{}, map[string]impl.ScriptResult{}
		for what, call := range calls {
			got[what] = call(given)
			want[what] = scriptAnswer(what, got[what])
			wipeWorld(call(given).World)
		}
		if wholeWorld(given) != before {
			t.Errorf("an answer shares memory with world %d", i)
		}
		wipeWorld(given)
		for what, r := range got {
			askSame(t, scriptAnswer(what, r), want[what])
		}
	}
}
