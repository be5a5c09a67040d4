package tests

import (
	"fmt"
	"math"
	"slices"
	"strings"
	"testing"

	"loop.example/g00447/impl"
)

// wantStoreText goes by the document's words.
func wantStoreText(s impl.Store) impl.TextResult {
	if fault := wantStoreFault(s); fault != impl.OK {
		return impl.TextResult{Code: fault}
	}
	if len(s.Boxes) == 0 {
		return impl.TextResult{Text: "none\n"}
	}
	var text strings.Builder
	for _, b := range s.Boxes {
		fmt.Fprintf(&text, "box %s %d %d\n", b.Name, b.Validity, b.Next)
		for _, m := range b.Messages {
			fmt.Fprintf(&text, "message %d %d %d %d\n", m.Uid, m.Flags, m.Date, len(m.Data))
		}
	}
	return impl.TextResult{Text: text.String()}
}

func askStoreText(t *testing.T, what string, s impl.Store) impl.TextResult {
	t.Helper()
	got, want := impl.StoreText(s), wantStoreText(s)
	askText(t, what, got, want.Code, want.Text)
	return got
}

// readStore reads mailboxes back from what is said of them; of Data it knows but how many bytes there are.
func readStore(t *testing.T, text string) (list []impl.Box) {
	t.Helper()
	if text == "none\n" {
		return nil
	}
	body, ok := strings.CutSuffix(text, "\n")
	if !ok {
		t.Errorf("%q does not end with a line feed", text)
	}
	for _, line := range strings.Split(body, "\n") {
		var b impl.Box
		var m impl.Message
		var size int
		if n, _ := fmt.Sscanf(line, "box %s %d %d", &b.Name, &b.Validity, &b.Next); n == 3 {
			list = append(list, b)
		} else if n, _ := fmt.Sscanf(line, "message %d %d %d %d", &m.Uid, &m.Flags, &m.Date, &size); n == 4 && len(list) > 0 {
			m.Data = make([]byte, size)
			last := &list[len(list)-1]
			last.Messages = append(last.Messages, m)
		} else {
			t.Errorf("%q is no line of a store", line)
		}
	}
	return list
}

// withoutData are the mailboxes as one knows them who knows but how many bytes of Data there are.
func withoutData(list []impl.Box) string {
	text := ""
	for _, b := range list {
		text += fmt.Sprintf("(%q %d %d", b.Name, b.Validity, b.Next)
		for _, m := range b.Messages {
			text += fmt.Sprint(" ", m.Uid, m.Flags, m.Date, len(m.Data))
		}
		text += ")"
	}
	return text
}

// mostStore has the greatest numbers that there may be.
func mostStore() impl.Store {
	return store(1000, impl.Box{Name: "zzzzzzzz", Validity: 999, Next: 1000, Messages: []impl.Message{{Uid: 999, Flags: 15, Date: 9999, Data: someBytes(400)}}})
}

func TestWhatIsSaidOfAStoreByHand(t *testing.T) {
	mixed := store(9, impl.Box{Name: "in", Validity: 7, Next: 30, Messages: []impl.Message{{Uid: 2, Flags: 9, Date: 5, Data: []byte("a\nb")}, {Uid: 29, Data: []byte{}}}}, box("old", 1, 1), box("a", 8, 12, 10))
	for _, by := range []struct {
		what string
		s    impl.Store
		want string
	}{
		{"no mailboxes", store(1), "none\n"},
		{"a list of no mailboxes", impl.Store{Validity: 1000, Boxes: []impl.Box{}}, "none\n"},
		{"a mailbox without messages", store(2, box("in", 1, 1)), "box in 1 1\n"},
		{"two of them", store(3, box("in", 1, 1), box("old", 2, 7)), "box in 1 1\nbox old 2 7\n"},
		{"as they stand, not by name or Validity", store(9, box("z", 8, 1), box("b", 2, 1), box("c", 5, 1)), "box z 8 1\nbox b 2 1\nbox c 5 1\n"},
		{"a mailbox called none", store(2, box("none", 1, 1)), "box none 1 1\n"},
		{"mailboxes called as words", store(3, box("message", 1, 1), box("box", 2, 1)), "box message 1 1\nbox box 2 1\n"},
		{"a message of no bytes", store(2, impl.Box{Name: "in", Validity: 1, Next: 2, Messages: []impl.Message{{Uid: 1}}}), "box in 1 2\nmessage 1 0 0 0\n"},
		{"a message of 400 bytes", store(2, impl.Box{Name: "in", Validity: 1, Next: 2, Messages: []impl.Message{{Uid: 1, Data: someBytes(400)}}}), "box in 1 2\nmessage 1 0 0 400\n"},
		{"a message of line feeds", store(2, impl.Box{Name: "in", Validity: 1, Next: 2, Messages: []impl.Message{{Uid: 1, Data: []byte("\n\n\n")}}}), "box in 1 2\nmessage 1 0 0 3\n"},
		{"the greatest numbers", mostStore(), "box zzzzzzzz 999 1000\nmessage 999 15 9999 400\n"},
		{"some of all", mixed, "box in 7 30\nmessage 2 9 5 3\nmessage 29 0 0 0\nbox old 1 1\nbox a 8 12\nmessage 10 10 7 3\n"},
		{"as much as there can be", fullStore(), "box in 1 1000\nmessage 1 1 7 2\nmessage 2 2 7 2\nmessage 4 4 7 2\nmessage 500 4 7 4\nmessage 998 6 7 4\nmessage 999 7 7 4\nbox abcdefgh 999 7\nmessage 1 1 7 2\nmessage 2 2 7 2\nmessage 3 3 7 2\nmessage 4 4 7 2\nmessage 5 5 7 2\nmessage 6 6 7 2\nbox z 500 1\n"},
	} {
		askText(t, by.what, impl.StoreText(by.s), impl.OK, by.want)
		askStoreText(t, by.what, by.s)
	}
}

func TestStoresWithAFaultAreNotTold(t *testing.T) {
	codes := map[int64]int{}
	for i, s := range append(faultyStores(), impl.Store{Boxes: []impl.Box{box("in", 1, 1)}}, store(math.MinInt64), store(math.MaxInt64)) {
		got := askStoreText(t, fmt.Sprint("store ", i), s)
		codes[got.Code]++
	}
	for _, code := range []int64{impl.ErrForm, impl.ErrMany, impl.ErrRange, impl.ErrText, impl.ErrTaken, impl.ErrState} {
		if codes[code] == 0 {
			t.Errorf("no store has the code %d", code)
		}
	}
	if codes[impl.OK] != 0 {
		t.Error("a store with a fault is told")
	}
	askText(t, "nothing", impl.StoreText(impl.Store{}), impl.ErrRange, "")
	for i, list := range faultyMessages() {
		askStoreText(t, fmt.Sprint("messages ", i), store(9, impl.Box{Name: "in", Validity: 1, Next: 7, Messages: list}))
	}
}

func TestWhatIsSaidOfAStoreIsWhatItIs(t *testing.T) {
	stores := slices.Concat(someStores(), opStores(), []impl.Store{mostStore()})
	for count := range len(deeds()) + 1 {
		stores = append(stores, upVault(deeds()[:count], nil).Store)
	}
	told := 0
	for i, s := range stores {
		if got := askStoreText(t, fmt.Sprint("store ", i), s); got.Code == impl.OK {
			told++
			if read := withoutData(readStore(t, got.Text)); read != withoutData(s.Boxes) {
				t.Errorf("store %d: got %s, want %s", i, read, withoutData(s.Boxes))
			}
		}
	}
	if told < 20 {
		t.Errorf("only %d stores were told", told)
	}
	// What differs in anything that is told is told in another way, and what differs in nothing of that is not.
	for what, other := range otherStores() {
		got := askStoreText(t, what, other)
		if isSame := withoutData(other.Boxes) == withoutData(fullStore().Boxes); got.Code == impl.OK && isSame != (got.Text == impl.StoreText(fullStore()).Text) {
			t.Errorf("%s: got %q", what, got.Text)
		}
	}
}

func TestEachNumberOfAStoreIsTold(t *testing.T) {
	for n := int64(0); n <= 10001; n++ {
		what := fmt.Sprint(n)
		askStoreText(t, what+" as Validity", store(1000, box("in", n, 1)))
		askStoreText(t, what+" as Next", store(2, box("in", 1, n)))
		askStoreText(t, what+" as Uid", store(2, box("in", 1, 1000, n)))
		for _, m := range []impl.Message{{Uid: 1, Flags: n}, {Uid: 1, Date: n}, {Uid: 1, Data: make([]byte, min(n, 402))}} {
			askStoreText(t, what+" of a message", store(2, impl.Box{Name: "in", Validity: 1, Next: 2, Messages: []impl.Message{m}}))
		}
	}
}

// wantWordsOf goes by the document's words: what stands between two blanks, where it is anything.
func wantWordsOf(line string) (words []string) {
	for _, piece := range strings.Split(line, " ") {
		if piece != "" {
			words = append(words, piece)
		}
	}
	return words
}

func askWordsOf(t *testing.T, line string, want ...string) {
	t.Helper()
	got := impl.WordsOf(line)
	if got.Code != impl.OK || !slices.Equal(got.Words, want) {
		t.Errorf("%.200q: got code %d, %.200q, want %.200q", line, got.Code, got.Words, want)
	}
}

func TestWordsOfByHand(t *testing.T) {
	askWordsOf(t, "")
	askWordsOf(t, " ")
	askWordsOf(t, "     ")
	askWordsOf(t, strings.Repeat(" ", 1<<16))
	askWordsOf(t, "a", "a")
	askWordsOf(t, "crash 0", "crash", "0")
	askWordsOf(t, " a", "a")
	askWordsOf(t, "   a", "a")
	askWordsOf(t, "a ", "a")
	askWordsOf(t, "a   ", "a")
	askWordsOf(t, " a  b ", "a", "b")
	askWordsOf(t, "a b", "a", "b")
	askWordsOf(t, "a    b   c", "a", "b", "c")
	askWordsOf(t, "b a b a", "b", "a", "b", "a")
	// A tab, a line feed and whatever else looks like a blank are none.
	askWordsOf(t, "\t", "\t")
	askWordsOf(t, "\n", "\n")
	askWordsOf(t, "a\tb c", "a\tb", "c")
	askWordsOf(t, "a\nb \n c\n", "a\nb", "\n", "c\n")
	askWordsOf(t, "a\r\v\f\x00b", "a\r\v\f\x00b")
	askWordsOf(t, "a\u00a0b \u2003 \u3000c\u0085", "a\u00a0b", "\u2003", "\u3000c\u0085")
	// Bytes that are no text are bytes of a word, also where they would begin or end a character around a blank.
	askWordsOf(t, "\xff \xc3 \xa4 \xe2\x82", "\xff", "\xc3", "\xa4", "\xe2\x82")
	askWordsOf(t, "\xa0 \x80\x20\xa0", "\xa0", "\x80", "\xa0")
	askWordsOf(t, "ä ö", "ä", "ö")
	askWordsOf(t, strings.Repeat("a", 1<<16), strings.Repeat("a", 1<<16))
	askWordsOf(t, strings.Repeat("ab ", 1<<12), slices.Repeat([]string{"ab"}, 1<<12)...)
}

func TestWordsOfAnyLine(t *testing.T) {
	counts := map[int]int{}
	eachRow([]string{" ", "a", "bc", "\t", "\n", "\xc3", "\xa0"}, 6, func(line string) {
		words := wantWordsOf(line)
		counts[len(words)]++
		askWordsOf(t, line, words...)
		// Put together again they are the line, but for blanks.
		if got := strings.Join(impl.WordsOf(line).Words, ""); got != strings.ReplaceAll(line, " ", "") {
			t.Errorf("%q: the words have %q", line, got)
		}
	})
	if len(counts) != 4 || counts[0] != 7 {
		t.Errorf("got as many lines of each count of words: %v", counts)
	}
	for b := range 256 {
		letter := string([]byte{byte(b)})
		askWordsOf(t, "a"+letter+"b", wantWordsOf("a"+letter+"b")...)
		askWordsOf(t, letter+" "+letter, wantWordsOf(letter+" "+letter)...)
		if want := map[bool]int{true: 2, false: 1}[b == 32]; len(impl.WordsOf("a"+letter+"b").Words) != want {
			t.Errorf("the byte %d: got %q", b, impl.WordsOf("a"+letter+"b").Words)
		}
	}
	for _, line := range append(someLines(), textArguments()...) {
		askWordsOf(t, line, wantWordsOf(line)...)
	}
}
