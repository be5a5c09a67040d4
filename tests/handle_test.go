package tests

import (
	"fmt"
	"slices"
	"strconv"
	"strings"
	"testing"

	"loop.example/g00447/impl"
)

// said is a line that somebody says, with their place ahead of it, and what is answered, with " | " between its lines.
type said struct {
	says, want string
}

// askTalk asks line by line, and what each answer does to the world by the words of the document.
func askTalk(t *testing.T, what string, w impl.World, talk ...said) impl.World {
	t.Helper()
	for at, s := range talk {
		digit, line, _ := strings.Cut(s.says, " ")
		who, _ := strconv.ParseInt(digit, 10, 64)
		got := askLine(t, fmt.Sprintf("%s, line %d", what, at), w, who, line)
		if strings.Join(got.Lines, " | ") != s.want {
			t.Errorf("%s: %q: got %q, want %q", what, s.says, strings.Join(got.Lines, " | "), s.want)
		}
		w = got.World
	}
	return w
}

// opOf is the op that a command asks for, of the Uids told; it has no Kind where there is none.
func opOf(c impl.Cmd, s impl.Session, uids []int64) impl.Op {
	switch c.Kind {
	case impl.CmdMake:
		return makeOp(c.Name)
	case impl.CmdErase:
		return eraseOp(c.Name)
	case impl.CmdAdd:
		return addOp(c.Name, c.Flags, c.Date, string(c.Data))
	case impl.CmdFlag:
		return flagOp(s.Box, c.Mode, c.Flags, uids...)
	case impl.CmdCopy:
		return copyOp(s.Box, c.Name, uids...)
	case impl.CmdMove:
		return moveOp(s.Box, c.Name, uids...)
	case impl.CmdPurge:
		return purgeOp(s.Box)
	}
	return impl.Op{}
}

// wantObeyed turns the world, and tells what the command says and its code, by the words of the document.
func wantObeyed(w *impl.World, who int64, c impl.Cmd) (lines []string, code int64) {
	s := &w.Sessions[who]
	needsBox := c.Kind >= impl.CmdFlag && c.Kind <= impl.CmdSort
	if needsBox && openBox(*w, *s) == nil {
		return nil, impl.ErrState
	}
	var uids []int64
	if len(c.Ranges) > 0 {
		there := uidsOf(*openBox(*w, *s))
		for _, number := range wantNumbers(c.Ranges, int64(len(s.Seen))) {
			if slices.Contains(there, s.Seen[number-1]) {
				uids = append(uids, s.Seen[number-1])
			}
		}
	}
	var told []int64
	if o := opOf(c, *s, uids); o.Kind != 0 {
		sure, _ := wantReadAll(w.Vault.Sure)
		loose, _ := wantReadAll(w.Vault.Loose)
		done := wantDo(sure, loose, o)
		if done.Code != impl.OK {
			return nil, done.Code
		}
		w.Vault, told = done.Vault, done.Uids
	}
	words := func(list []int64) string { return strings.Trim(fmt.Sprint(list), "[]") }
	number := func(uid int64) int { return slices.Index(s.Seen, uid) + 1 }
	switch c.Kind {
	case impl.CmdAdd:
		return []string{"* added " + words(told)}, impl.OK
	case impl.CmdCopy, impl.CmdMove:
		return []string{strings.TrimSpace("* copied " + words(told))}, impl.OK
	case impl.CmdSelect:
		at := slices.IndexFunc(w.Vault.Store.Boxes, func(b impl.Box) bool { return b.Name == c.Name })
		if at < 0 {
			return nil, impl.ErrNone
		}
		b := w.Vault.Store.Boxes[at]
		s.Box, s.Validity, s.Seen = b.Name, b.Validity, uidsOf(b)
		return []string{fmt.Sprint("* exists ", len(b.Messages)), fmt.Sprint("* valid ", b.Validity)}, impl.OK
	case impl.CmdClose:
		if s.Box != "" {
			lines = []string{"* closed"}
		}
		s.Box, s.Validity, s.Seen = "", 0, nil
	case impl.CmdCompare:
		s.Cmp = c.Cmp
	case impl.CmdFlag, impl.CmdFetch:
		for _, m := range openBox(*w, *s).Messages {
			if !slices.Contains(uids, m.Uid) {
				continue
			}
			seen := fmt.Sprint("flags ", m.Flags)
			if c.Kind == impl.CmdFetch && c.What != impl.WhatFlags {
				seen = wantFetched(string(m.Data), c)
			}
			lines = append(lines, fmt.Sprint("* ", number(m.Uid), " ", seen))
		}
	case impl.CmdSearch, impl.CmdSort:
		b := *openBox(*w, *s)
		found, _ := wantFound(c.Terms, b, s.Cmp)
		if c.Kind == impl.CmdSort {
			found, _ = wantSorted(c.Terms, b, s.Cmp, c.Key, c.Back)
		}
		line := "* found"
		for _, sequence := range found {
			if n := number(b.Messages[sequence-1].Uid); n > 0 {
				line += fmt.Sprint(" ", n)
			}
		}
		return []string{line}, impl.OK
	}
	return lines, impl.OK
}

func wantHandled(w impl.World, who int64, line string) impl.WorldResult {
	if code := wantTurnedAway(w, who); code != impl.OK {
		return impl.WorldResult{Code: code}
	}
	c, code := wantCmd(line)
	if code != impl.OK {
		tag, _, _ := strings.Cut(line, " ")
		if !cmdTags.MatchString(tag) {
			tag = "*"
		}
		return impl.WorldResult{Lines: []string{tag + " bad"}, World: w}
	}
	own := clonedWorld(w)
	lines, code := wantObeyed(&own, who, c)
	if code != impl.OK {
		return impl.WorldResult{Lines: []string{fmt.Sprint(c.Tag, " no ", code)}, World: w}
	}
	if !slices.Contains([]int64{impl.CmdFlag, impl.CmdFetch, impl.CmdSearch, impl.CmdSort}, c.Kind) {
		lines = append(lines, wantToldTo(own, who)...)
	}
	return impl.WorldResult{Lines: append(lines, c.Tag+" ok"), World: own}
}

// askLine asks for the answer to a line, and of it what promise 16 tells of any.
func askLine(t *testing.T, what string, w impl.World, who int64, line string) impl.WorldResult {
	t.Helper()
	what = fmt.Sprintf("%s: %d says %.200q", what, who, line)
	got := impl.HandleLine(w, who, line)
	askWorld(t, what, got, wantHandled(w, who, line))
	if got.Code != impl.OK || len(got.Lines) == 0 {
		return got
	}
	askCode(t, what, impl.WorldFault(got.World), impl.OK)
	ahead, last := got.Lines[:len(got.Lines)-1], got.Lines[len(got.Lines)-1]
	if slices.ContainsFunc(ahead, func(told string) bool { return !strings.HasPrefix(told, "* ") }) {
		t.Errorf("%s: tells more than once how it went: %q", what, got.Lines)
	}
	c, code := wantCmd(line)
	switch {
	case code != impl.OK || last != c.Tag+" ok":
		if len(ahead) != 0 || worldText(got.World) != worldText(w) {
			t.Errorf("%s: did not go, and turned something, or told something else: %q", what, got.Lines)
		}
	case c.Kind != impl.CmdFlag && (c.Kind < impl.CmdFetch || c.Kind == impl.CmdCompare):
		askMirror(t, what, w.Sessions[who], got, who)
	}
	// What is told of a mailbox makes who counts have as many as it was told of, whatever there is.
	askInt(t, what+", counted", impl.MirrorCount(int64(len(w.Sessions[who].Seen)), got.Lines), impl.OK, int64(len(got.World.Sessions[who].Seen)))
	for other, s := range got.World.Sessions {
		if int64(other) != who && fmt.Sprint(s) != fmt.Sprint(w.Sessions[other]) {
			t.Errorf("%s: session %d is %v, was %v", what, other, s, w.Sessions[other])
		}
	}
	return got
}

func newWorld(sessions int64) impl.World {
	return impl.NewWorld(sessions).World
}

// threeMails has a mailbox "in" of three messages, of which the second one is deleted, and an empty one "old".
func threeMails(t *testing.T) impl.World {
	t.Helper()
	return askTalk(t, "three mails", newWorld(3),
		said{"0 a make in", "a ok"}, said{"0 a make old", "a ok"},
		said{"0 a add in 1 30 ClR3bw==", "* added 1 | a ok"}, said{"1 a add in 8 10 U3ViamVjdDogQgoKeA==", "* added 2 | a ok"}, said{"2 a add in 4 20 U3ViamVjdDogYQoKb25l", "* added 3 | a ok"},
		said{"0 a select in", "* exists 3 | * valid 1 | a ok"}, said{"1 a select in", "* exists 3 | * valid 1 | a ok"})
}

func TestATalkOfTwo(t *testing.T) {
	askTalk(t, "two", newWorld(2),
		said{"0 a make in", "a ok"}, said{"0 a select in", "* exists 0 | * valid 1 | a ok"}, said{"0 a add in 0 5 SGk=", "* added 1 | * exists 1 | a ok"}, said{"0 a add in 8 6 SG8=", "* added 2 | * exists 2 | a ok"},
		said{"1 b select in", "* exists 2 | * valid 1 | b ok"}, said{"1 c purge", "* gone 2 | c ok"}, said{"0 d noop", "* gone 2 | d ok"}, said{"0 d noop", "d ok"},
		said{"1 e copy 1 in", "* copied 3 | * exists 2 | e ok"}, said{"1 f flag 1 more 8", "* 1 flags 8 | f ok"}, said{"1 g purge", "* gone 1 | g ok"}, said{"0 h noop", "* gone 1 | * exists 1 | h ok"},
		said{"0 i erase in", "* closed | i ok"}, said{"0 j make in", "j ok"}, said{"1 k noop", "* closed | k ok"}, said{"1 k noop", "k ok"}, said{"1 l select in", "* exists 0 | * valid 2 | l ok"})
}

func TestLinesThatAreNoCommands(t *testing.T) {
	for _, w := range []impl.World{newWorld(1), threeMails(t)} {
		for _, line := range noCmds() {
			want := "* bad"
			if tag, _, _ := strings.Cut(line, " "); cmdTags.MatchString(tag) {
				want = tag + " bad"
			}
			askWorld(t, fmt.Sprintf("%.100q", line), impl.HandleLine(w, 0, line), impl.WorldResult{Lines: []string{want}, World: w})
		}
		askTalk(t, "no commands", w,
			said{"0 h wink", "h bad"}, said{"0 noop", "noop bad"}, said{"0", "* bad"}, said{"0  noop", "* bad"}, said{"0 A noop", "* bad"}, said{"0 abcde noop", "* bad"}, said{"0 * noop", "* bad"}, said{"0 z9z9 ", "z9z9 bad"}, said{"0 a noop ", "a bad"}, said{"0 a fetch 0 size", "a bad"}, said{"0 ok ok", "ok bad"})
	}
	// What one is not told of then is told later.
	w := askTalk(t, "later", threeMails(t), said{"0 a purge", "* gone 2 | a ok"}, said{"1 b wink", "b bad"}, said{"1 wink wink", "wink bad"}, said{"1 B noop", "* bad"}, said{"1 b flag 9:1 set", "b bad"}, said{"1 c noop", "* gone 2 | c ok"})
	askTalk(t, "later", w, said{"1 d noop", "d ok"})
}

func TestNoop(t *testing.T) {
	askTalk(t, "noop", threeMails(t),
		said{"2 a noop", "a ok"}, said{"0 a noop", "a ok"}, said{"2 b add in 0 0 Cg==", "* added 4 | b ok"}, said{"0 zz9 noop", "* exists 4 | zz9 ok"}, said{"0 a noop", "a ok"},
		said{"2 b erase in", "b ok"}, said{"0 a noop", "* closed | a ok"}, said{"0 a noop", "a ok"}, said{"1 c noop", "* closed | c ok"})
}

func TestMakeAndErase(t *testing.T) {
	w := askTalk(t, "make", threeMails(t),
		said{"2 a make in", "a no 6"}, said{"2 a erase none", "a no 4"}, said{"2 a make z", "a ok"}, said{"2 a make y", "a no 10"}, said{"2 a make z", "a no 6"}, said{"0 a erase old", "a ok"}, said{"0 a erase old", "a no 4"}, said{"0 a make in", "a no 6"},
		said{"2 b erase in", "b ok"}, said{"2 b make in", "b ok"}, said{"0 c make y", "* closed | c ok"}, said{"1 d erase none", "d no 4"}, said{"1 d erase z", "* closed | d ok"}, said{"0 c select in", "* exists 0 | * valid 4 | c ok"})
	askTalk(t, "the one that is open", w, said{"0 c erase in", "* closed | c ok"}, said{"0 c erase in", "c no 4"})
	// A mailbox that was made anew is another one, also where nobody was told between.
	askTalk(t, "anew", threeMails(t), said{"0 a erase in", "* closed | a ok"}, said{"0 a make in", "a ok"}, said{"0 a add in 0 0 Cg==", "* added 1 | a ok"}, said{"0 a add in 0 0 Cg==", "* added 2 | a ok"}, said{"0 a add in 0 0 Cg==", "* added 3 | a ok"},
		said{"1 b fetch 1:* size", "b no 9"}, said{"1 b search all", "b no 9"}, said{"1 b flag 1 set 0", "b no 9"}, said{"1 b purge", "b no 9"}, said{"1 b noop", "* closed | b ok"}, said{"1 b fetch 1:* size", "b no 9"})
}

func TestSelectAndClose(t *testing.T) {
	askTalk(t, "select", threeMails(t),
		said{"2 a close", "a ok"}, said{"2 a select none", "a no 4"}, said{"2 a select old", "* exists 0 | * valid 2 | a ok"}, said{"2 a select old", "* exists 0 | * valid 2 | a ok"}, said{"2 a select in", "* exists 3 | * valid 1 | a ok"}, said{"2 a select none", "a no 4"}, said{"2 a fetch 3 size", "* 3 size 15 | a ok"}, said{"2 a close", "* closed | a ok"}, said{"2 a close", "a ok"}, said{"2 a fetch 3 size", "a no 9"},
		// Whoever selects the mailbox that is open is told of all anew, and of nothing that is gone.
		said{"0 b purge", "* gone 2 | b ok"}, said{"1 c select in", "* exists 2 | * valid 1 | c ok"}, said{"1 c noop", "c ok"}, said{"1 c fetch 1:* flags", "* 1 flags 1 | * 2 flags 4 | c ok"},
		// One that goes wrong leaves open what was.
		said{"0 b add in 0 0 Cg==", "* added 4 | * exists 3 | b ok"}, said{"1 c select none", "c no 4"}, said{"1 c noop", "* exists 3 | c ok"},
		// A mailbox that was erased is closed once.
		said{"0 b erase in", "* closed | b ok"}, said{"1 c close", "* closed | c ok"}, said{"1 c close", "c ok"}, said{"1 c select in", "c no 4"}, said{"1 c select old", "* exists 0 | * valid 2 | c ok"})
	askTalk(t, "another one", threeMails(t), said{"0 a purge", "* gone 2 | a ok"}, said{"1 a select old", "* exists 0 | * valid 2 | a ok"}, said{"1 a add in 0 0 Cg==", "* added 4 | a ok"}, said{"1 a copy 1:* in", "* copied | a ok"}, said{"1 a close", "* closed | a ok"}, said{"0 a close", "* closed | a ok"})
}

func TestAdd(t *testing.T) {
	askTalk(t, "add", threeMails(t),
		said{"2 a add none 0 0 Cg==", "a no 4"}, said{"2 a add old 15 9999 AP8=", "* added 1 | a ok"}, said{"2 a add in 0 0 Cg==", "* added 4 | a ok"}, said{"0 b add in 8 1 Cg==", "* added 5 | * exists 5 | b ok"}, said{"0 b add old 0 0 Cg==", "* added 2 | b ok"}, said{"1 c add in 0 0 Cg==", "* added 6 | * exists 6 | c ok"},
		said{"1 c add in 0 0 Cg==", "c no 10"}, said{"0 b add in 0 0 Cg==", "b no 10"}, said{"0 b noop", "* exists 6 | b ok"}, said{"0 b purge", "* gone 5 | * gone 2 | b ok"}, said{"0 b add in 0 0 Cg==", "* added 7 | * exists 5 | b ok"}, said{"1 c add in 0 0 Cg==", "* added 8 | * gone 5 | * gone 2 | * exists 6 | c ok"},
		said{"2 a select old", "* exists 2 | * valid 2 | a ok"}, said{"2 a fetch 1 flags", "* 1 flags 15 | a ok"}, said{"2 a fetch 1 size", "* 1 size 2 | a ok"})
}

func TestFlag(t *testing.T) {
	askTalk(t, "flag", threeMails(t),
		said{"2 a flag 1 set 0", "a no 9"}, said{"0 a flag 1 set 6", "* 1 flags 6 | a ok"}, said{"0 a flag 1:2 more 1", "* 1 flags 7 | * 2 flags 9 | a ok"}, said{"0 a flag * less 4", "* 3 flags 0 | a ok"}, said{"0 a flag 3:1 less 2", "* 1 flags 5 | * 2 flags 9 | * 3 flags 0 | a ok"}, said{"0 a flag 3,1,3 more 0", "* 1 flags 5 | * 3 flags 0 | a ok"},
		// Places beyond what was seen, and those whose message is gone, are none.
		said{"0 a flag 4:9 set 1", "a ok"}, said{"0 a flag 7 set 1", "a ok"}, said{"0 a flag 3:9 set 8", "* 3 flags 8 | a ok"}, said{"0 a flag 9:* set 8", "* 3 flags 8 | a ok"}, said{"1 b purge", "* gone 3 | * gone 2 | b ok"}, said{"0 a flag 2:3 set 1", "a ok"}, said{"0 a flag 1:* more 2", "* 1 flags 7 | a ok"}, said{"0 a noop", "* gone 3 | * gone 2 | a ok"},
		// Nothing is told of what is new meanwhile.
		said{"1 b add in 0 0 Cg==", "* added 4 | * exists 2 | b ok"}, said{"0 a flag 1:* set 0", "* 1 flags 0 | a ok"}, said{"0 a flag 2 set 0", "a ok"}, said{"0 a noop", "* exists 2 | a ok"},
		said{"1 b select old", "* exists 0 | * valid 2 | b ok"}, said{"1 b flag * set 1", "b ok"}, said{"1 b flag 1:* set 1", "b ok"}, said{"0 a erase old", "a ok"}, said{"1 b flag 1 set 1", "b no 9"}, said{"1 b noop", "* closed | b ok"})
}

func TestCopyAndMove(t *testing.T) {
	askTalk(t, "copy", threeMails(t),
		said{"2 a copy 1 old", "a no 9"}, said{"2 a move 1 old", "a no 9"}, said{"0 a copy 1 none", "a no 4"}, said{"0 a move 1 none", "a no 4"}, said{"0 a copy 1,3 old", "* copied 1 2 | a ok"}, said{"0 a copy 3:1 old", "* copied 3 4 5 | a ok"}, said{"0 a copy 1:2 old", "a no 10"}, said{"0 a move 1:2 old", "a no 10"}, said{"0 a copy 2 old", "* copied 6 | a ok"}, said{"0 a copy 2 old", "a no 10"},
		// None at all is copied whatever room there is, but not to nowhere.
		said{"0 a copy 7 old", "* copied | a ok"}, said{"0 a move 4:9 old", "* copied | a ok"}, said{"0 a copy 7 none", "a no 4"}, said{"0 a move 7 in", "a no 9"},
		said{"0 a move 1 in", "a no 9"}, said{"0 a copy 1 in", "* copied 4 | * exists 4 | a ok"}, said{"0 a copy 2:* in", "a no 10"}, said{"1 b copy * in", "* copied 5 | * exists 5 | b ok"}, said{"0 a noop", "* exists 5 | a ok"})
	askTalk(t, "move", threeMails(t),
		said{"0 a move 2 old", "* copied 1 | * gone 2 | a ok"}, said{"1 b move 1:* old", "* copied 2 3 | * gone 3 | * gone 2 | * gone 1 | b ok"}, said{"0 a copy 1:* old", "* copied | * gone 2 | * gone 1 | a ok"}, said{"0 a copy 1:* old", "* copied | a ok"}, said{"0 a select old", "* exists 3 | * valid 2 | a ok"}, said{"0 a fetch 1:* flags", "* 1 flags 8 | * 2 flags 1 | * 3 flags 4 | a ok"},
		said{"1 b add in 0 0 Cg==", "* added 4 | * exists 1 | b ok"}, said{"1 b move 1 old", "* copied 4 | * gone 1 | b ok"}, said{"0 a move * in", "* copied 5 | * gone 3 | * exists 3 | a ok"}, said{"1 b noop", "* exists 1 | b ok"}, said{"1 b erase in", "* closed | b ok"}, said{"0 a copy 1 in", "a no 4"}, said{"0 a move 1 in", "a no 4"}, said{"0 a noop", "a ok"})
}

func TestPurge(t *testing.T) {
	askTalk(t, "purge", threeMails(t),
		said{"2 a purge", "a no 9"}, said{"0 a purge", "* gone 2 | a ok"}, said{"0 a purge", "a ok"}, said{"1 b purge", "* gone 2 | b ok"}, said{"1 b flag 1:* more 8", "* 1 flags 9 | * 2 flags 12 | b ok"}, said{"2 a add in 8 0 Cg==", "* added 4 | a ok"}, said{"2 a add in 0 0 Cg==", "* added 5 | a ok"},
		// What was not seen yet is purged as well.
		said{"0 a purge", "* gone 2 | * gone 1 | * exists 1 | a ok"}, said{"1 b purge", "* gone 2 | * gone 1 | * exists 1 | b ok"}, said{"0 a fetch 1 flags", "* 1 flags 0 | a ok"}, said{"2 a select old", "* exists 0 | * valid 2 | a ok"}, said{"2 a purge", "a ok"})
}

func TestFetch(t *testing.T) {
	askTalk(t, "fetch", threeMails(t),
		said{"2 a fetch 1 size", "a no 9"}, said{"0 a fetch 1:* flags", "* 1 flags 1 | * 2 flags 8 | * 3 flags 4 | a ok"}, said{"0 a fetch 3,1 size", "* 1 size 4 | * 3 size 15 | a ok"}, said{"0 a fetch * body 0", "* 3 body b25l | a ok"}, said{"0 a fetch 1 bytes 0", "* 1 bytes VHdv | a ok"}, said{"0 a fetch 2:1 text 0", "* 1 text VHdv | * 2 text eA== | a ok"}, said{"0 a fetch 1:3 preview", "* 1 preview VHdv | * 2 preview eA== | * 3 preview b25l | a ok"}, said{"0 a fetch 1:3 subject", "* 1 subject ! 4 | * 2 subject Qg== | * 3 subject YQ== | a ok"},
		said{"0 a fetch 1 body 1", "* 1 body ! 4 | a ok"}, said{"0 a fetch 1 text 9.9.9", "* 1 text ! 4 | a ok"}, said{"0 a fetch 4 size", "a ok"}, said{"0 a fetch 4:9 text 1", "a ok"}, said{"0 a fetch 999:* size", "* 3 size 15 | a ok"},
		// While places are told none of them is told away; nothing is told of what is gone.
		said{"1 b purge", "* gone 2 | b ok"}, said{"2 c add in 2 0 Cg==", "* added 4 | c ok"}, said{"0 a fetch 1:* flags", "* 1 flags 1 | * 3 flags 4 | a ok"}, said{"0 a fetch 2 flags", "a ok"}, said{"0 a fetch 4 flags", "a ok"}, said{"0 a noop", "* gone 2 | * exists 3 | a ok"}, said{"0 a fetch 1:* flags", "* 1 flags 1 | * 2 flags 4 | * 3 flags 2 | a ok"}, said{"0 a fetch 3 body 0", "* 3 body  | a ok"})
	letter := impl.EncodeBase([]byte(multi("b", "\none", "Content-Type: image/x\n\ntwo", textOf("iso-8859-1", "quoted-printable", "=E4")))).Text
	askTalk(t, "parts", newWorld(1), said{"0 a make in", "a ok"}, said{"0 a add in 0 0 " + letter, "* added 1 | a ok"}, said{"0 a add in 0 0 YQ==", "* added 2 | a ok"}, said{"0 a select in", "* exists 2 | * valid 1 | a ok"},
		said{"0 a fetch 1:2 body 1", "* 1 body b25l | * 2 body ! 4 | a ok"}, said{"0 a fetch 1 text 2", "* 1 text ! 1 | a ok"}, said{"0 a fetch 1 bytes 2", "* 1 bytes dHdv | a ok"}, said{"0 a fetch 1 text 3", "* 1 text w6Q= | a ok"}, said{"0 a fetch 1 bytes 3", "* 1 bytes 5A== | a ok"}, said{"0 a fetch 1 body 3", "* 1 body PUU0 | a ok"}, said{"0 a fetch 1 text 3.1", "* 1 text ! 4 | a ok"}, said{"0 a fetch 1 text 0", "* 1 text ! 1 | a ok"}, said{"0 a fetch 2 text 0", "* 2 text ! 1 | a ok"}, said{"0 a fetch 2 preview", "* 2 preview ! 4 | a ok"}, said{"0 a fetch 2 subject", "* 2 subject ! 1 | a ok"}, said{"0 a fetch 2 body 0", "* 2 body YQ== | a ok"})
}

func TestSearchAndSort(t *testing.T) {
	askTalk(t, "search", threeMails(t),
		said{"2 a search all", "a no 9"}, said{"2 a sort date up all", "a no 9"}, said{"0 a search all", "* found 1 2 3 | a ok"}, said{"0 a search flag deleted", "* found 2 | a ok"}, said{"0 a search not all", "* found | a ok"}, said{"0 a sort date up not all", "* found | a ok"}, said{"0 a search body w", "* found 1 | a ok"}, said{"0 a search uid *", "* found 3 | a ok"},
		said{"0 a sort date up all", "* found 2 3 1 | a ok"}, said{"0 a sort date down all", "* found 1 3 2 | a ok"}, said{"0 a sort size up all", "* found 1 2 3 | a ok"}, said{"0 a sort size down flag flagged", "* found 3 | a ok"}, said{"0 a sort arrival down all", "* found 3 2 1 | a ok"},
		// By octets B is ahead of a, by the others it is behind.
		said{"0 a sort subject up all", "* found 1 2 3 | a ok"}, said{"0 a compare i;ascii-casemap", "a ok"}, said{"0 a sort subject up all", "* found 1 3 2 | a ok"}, said{"1 b sort subject up all", "* found 1 2 3 | b ok"}, said{"0 a search subject b", "* found 2 | a ok"}, said{"1 b search subject b", "* found | b ok"}, said{"0 a compare i;octet", "a ok"}, said{"0 a search subject b", "* found | a ok"}, said{"0 a sort subject down all", "* found 3 2 1 | a ok"},
		// What was not seen yet is not told, and what is gone is not found.
		said{"2 c add in 0 15 Cg==", "* added 4 | c ok"}, said{"0 a search all", "* found 1 2 3 | a ok"}, said{"0 a search uid *", "* found | a ok"}, said{"0 a search uid 4", "* found | a ok"}, said{"0 a sort date up all", "* found 2 3 1 | a ok"}, said{"1 b purge", "* gone 2 | * exists 3 | b ok"}, said{"0 a search all", "* found 1 3 | a ok"}, said{"0 a sort date up all", "* found 3 1 | a ok"}, said{"1 b sort date up all", "* found 3 2 1 | b ok"}, said{"0 a search flag deleted", "* found | a ok"}, said{"0 a noop", "* gone 2 | * exists 3 | a ok"}, said{"0 a search all", "* found 1 2 3 | a ok"}, said{"0 a sort date down all", "* found 1 2 3 | a ok"})
}

func TestCompare(t *testing.T) {
	w := askTalk(t, "compare", threeMails(t), said{"2 a compare i;unicode-casemap", "a ok"}, said{"0 a compare i;ascii-casemap", "a ok"}, said{"1 b purge", "* gone 2 | b ok"}, said{"0 a compare i;unicode-casemap", "* gone 2 | a ok"}, said{"0 a compare i;octets", "a bad"}, said{"0 a select old", "* exists 0 | * valid 2 | a ok"}, said{"0 a close", "* closed | a ok"})
	for who, cmp := range []int64{impl.CmpUnicode, impl.CmpOctet, impl.CmpUnicode} {
		if w.Sessions[who].Cmp != cmp {
			t.Errorf("session %d: got Cmp %d, want %d", who, w.Sessions[who].Cmp, cmp)
		}
	}
}

func TestSeenThatDoesNotFit(t *testing.T) {
	// A session may have been told of what never was, or have a mailbox open that is none.
	v := upVault(opsOfBox(6, 2, 3, 5), nil)
	askTalk(t, "beyond", world(v, session("in", 1, 1, 2, 5, 999)), said{"0 a fetch 1:* flags", "* 2 flags 2 | * 3 flags 5 | a ok"}, said{"0 a search all", "* found 2 3 | a ok"}, said{"0 a sort date down all", "* found 3 2 | a ok"}, said{"0 a flag 1:* more 8", "* 2 flags 10 | * 3 flags 13 | a ok"}, said{"0 a copy 4,1 in", "* copied | * gone 4 | * gone 1 | * exists 3 | a ok"})
	askTalk(t, "another Validity", world(v, session("in", 2, 2), session("in", 1)), said{"0 a fetch 1 flags", "a no 9"}, said{"0 a copy 1 in", "a no 9"}, said{"0 a make in", "a no 6"}, said{"0 a compare i;octet", "* closed | a ok"}, said{"1 b fetch 1:* flags", "b ok"}, said{"1 b fetch * size", "b ok"}, said{"1 b flag * set 0", "b ok"}, said{"1 b search all", "* found | b ok"}, said{"1 b move 1:* none", "b no 4"}, said{"1 b noop", "* exists 3 | b ok"})
	askTalk(t, "no such mailbox", world(v, session("nowhere", 9, 1, 2)), said{"0 a sort date up all", "a no 9"}, said{"0 a select nowhere", "a no 4"}, said{"0 a select in", "* exists 3 | * valid 1 | a ok"})
}

func TestAVaultThatHasNoRoomAnyMore(t *testing.T) {
	sixty := world(upVault(append(opsOfBox(3, 1, 2, 3), slices.Repeat([]impl.Op{purgeOp("in")}, 56)...), nil), session("in", 1, 1, 2, 3), session("in", 1))
	askTalk(t, "sixty ops", sixty, said{"0 a add in 0 0 Cg==", "a no 10"}, said{"0 a flag 1 set 0", "a no 10"}, said{"0 a flag 9 set 0", "a no 10"}, said{"0 a purge", "a no 10"}, said{"0 a copy 1 in", "a no 10"}, said{"0 a make old", "a no 10"}, said{"0 a make in", "a no 6"}, said{"0 a erase none", "a no 4"}, said{"0 a move 1 in", "a no 9"}, said{"0 a erase in", "a no 10"},
		said{"0 a fetch * size", "* 3 size 2 | a ok"}, said{"0 a noop", "a ok"}, said{"1 b add in 0 0 Cg==", "b no 10"}, said{"1 b noop", "* exists 3 | b ok"}, said{"0 a select in", "* exists 3 | * valid 1 | a ok"}, said{"0 a compare i;octet", "a ok"}, said{"0 a close", "* closed | a ok"})
	long := world(upVault(nil, bulk(6000)), session("", 0))
	askTalk(t, "6000 bytes", long, said{"0 a erase a", "a no 10"}, said{"0 a erase b", "a no 4"}, said{"0 a wink", "a bad"})
	// Whatever is done makes all Sure that was Loose.
	loose := world(upVault(deeds()[:3], deeds()[3:6]), session("in", 1, 1, 2))
	kept := askTalk(t, "Loose", loose, said{"0 a fetch 1:* flags", "* 1 flags 6 | * 2 flags 8 | a ok"}, said{"0 a noop", "a ok"}, said{"0 a select none", "a no 4"}, said{"0 a erase none", "a no 4"})
	if string(kept.Vault.Loose) != wantPackedAll(deeds()[3:6]) {
		t.Errorf("got Loose %q", kept.Vault.Loose)
	}
	if flushed := askTalk(t, "Sure", kept, said{"0 a purge", "* gone 2 | a ok"}); string(flushed.Vault.Sure) != wantPackedAll(append(deeds()[:6], purgeOp("in"))) || len(flushed.Vault.Loose) != 0 {
		t.Errorf("got Sure %q, Loose %q", flushed.Vault.Sure, flushed.Vault.Loose)
	}
}

func TestEachCommandInEachWorld(t *testing.T) {
	worlds := map[string]impl.World{
		"nothing": newWorld(1), "three mails": threeMails(t), "nothing is open": world(threeMails(t).Vault, session("", 0)), "it was erased": world(upVault(deeds(), nil), session("in", 1, 1, 2)), "it was made anew": world(upVault(append(deeds(), makeOp("in")), nil), session("in", 1, 1)),
		"some are gone": world(upVault(opsOfBox(6, 2, 4, 5), nil), session("in", 1, 1, 2, 3)), "another Cmp": world(threeMails(t).Vault, impl.Session{Box: "in", Validity: 1, Seen: []int64{2, 3}, Cmp: 3}), "some are Loose": world(upVault(deeds()[:5], deeds()[5:12]), session("old", 2, 1)),
		"full": world(upVault(append(opsOfBox(6, 1, 2, 3, 4, 5, 6), makeOp("old"), makeOp("z")), nil), session("in", 1, 1, 2, 3, 4, 5, 6)),
	}
	ends := map[string]int{}
	for what, w := range worlds {
		for _, c := range someCmds() {
			for _, name := range []string{"", "in", "old", "none"} {
				if c.Name == "" && name != "" {
					continue
				}
				if name != "" {
					c.Name = name
				}
				got := askLine(t, what, w, 0, impl.CmdText(c).Text)
				ends[fmt.Sprint(c.Kind, strings.TrimPrefix(got.Lines[len(got.Lines)-1], c.Tag))]++
			}
		}
		for _, by := range cmdsByHand {
			askLine(t, what, w, 0, by.line)
		}
	}
	for kind := 1; kind <= 14; kind++ {
		if ends[fmt.Sprint(kind, " ok")] == 0 {
			t.Errorf("no command of kind %d went", kind)
		}
	}
	for _, end := range []string{"2 no 6", "2 no 10", "3 no 4", "4 no 4", "6 no 4", "6 no 10", "7 no 9", "8 no 9", "8 no 4", "8 no 10", "9 no 9", "9 no 4", "10 no 9", "11 no 9", "12 no 9", "13 no 9"} {
		if ends[end] == 0 {
			t.Errorf("no command ends with %q", end)
		}
	}
}
