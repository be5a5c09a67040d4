package tests

import (
	"bytes"
	"fmt"
	"math/rand"
	"slices"
	"testing"

	"loop.example/g00447/impl"
)

func wantPackedAll(list []impl.Op) string {
	var data []byte
	for _, o := range list {
		data = append(data, wantPacked(o)...)
	}
	return string(data)
}

func opsWhole(list []impl.Op) string {
	text := fmt.Sprint(len(list))
	for _, o := range list {
		text += "\n" + opWhole(o)
	}
	return text
}

func askJournal(t *testing.T, what string, got impl.OpsResult, code int64, used int, want []impl.Op) {
	t.Helper()
	if got.Code != code || got.Used != int64(used) || opsWhole(got.Ops) != opsWhole(want) {
		t.Errorf("%s: got code %d, used %d, %.200s, want code %d, used %d, %.200s", what, got.Code, got.Used, opsWhole(got.Ops), code, used, opsWhole(want))
	}
}

// sized is an op that has just so many bytes, 15 to 415.
func sized(size int) impl.Op {
	return addOp("a", 1, int64(size), string(someBytes(size-15)))
}

// longList has just so many bytes, which are more than 700.
func longList(size int) []impl.Op {
	var list []impl.Op
	for size > 700 {
		list = append(list, sized(400))
		size -= 400
	}
	return append(list, sized(size/2), sized(size-size/2))
}

func TestListsOfOpsAsBytes(t *testing.T) {
	askBytes(t, "no list", impl.PackOps(nil), impl.OK, "")
	askBytes(t, "no ops", impl.PackOps([]impl.Op{}), impl.OK, "")
	for _, o := range journalOps() {
		askBytes(t, opText(o), impl.PackOps([]impl.Op{o}), impl.OK, string(wantPacked(o)))
	}
	for _, l := range packedByHand {
		for _, k := range packedByHand {
			askBytes(t, opText(l.op)+opText(k.op), impl.PackOps([]impl.Op{l.op, k.op, l.op}), impl.OK, l.data+k.data+l.data)
		}
	}
	for _, count := range []int{2, 7, 59, 60, 61, 100, 500, 533} {
		list := slices.Repeat([]impl.Op{makeOp("a")}, count)
		askBytes(t, fmt.Sprint(count, " ops"), impl.PackOps(list), impl.OK, wantPackedAll(list))
		askJournal(t, fmt.Sprint(count, " ops"), impl.ReadJournal(impl.PackOps(list).Bytes), impl.OK, 15*count, list)
	}
	askBytes(t, "8010 bytes of 534 ops", impl.PackOps(slices.Repeat([]impl.Op{makeOp("a")}, 534)), impl.ErrMany, "")
}

func TestListsOfTheMostBytesAndOfMore(t *testing.T) {
	for _, size := range []int{701, 7601, 7999, 8000} {
		list := longList(size)
		told := impl.PackOps(list)
		askBytes(t, fmt.Sprint(size), told, impl.OK, wantPackedAll(list))
		if len(told.Bytes) != size {
			t.Errorf("%d bytes instead of %d", len(told.Bytes), size)
		}
		askJournal(t, fmt.Sprint(size), impl.ReadJournal(told.Bytes), impl.OK, size, list)
	}
	askBytes(t, "twenty of 400", impl.PackOps(slices.Repeat([]impl.Op{sized(400)}, 20)), impl.OK, wantPackedAll(slices.Repeat([]impl.Op{sized(400)}, 20)))
	for _, size := range []int{8001, 8002, 8400, 16000, 65536 + 800, 1 << 18} {
		askBytes(t, fmt.Sprint(size), impl.PackOps(longList(size)), impl.ErrMany, "")
	}
	askBytes(t, "one op too many", impl.PackOps(append(longList(8000), purgeOp("a"))), impl.ErrMany, "")
	// Data that many ops share is not put together for nothing.
	askBytes(t, "very many", impl.PackOps(slices.Repeat([]impl.Op{sized(400)}, 1<<14)), impl.ErrMany, "")
}

func TestListsInWhichAnOpHasAFault(t *testing.T) {
	for _, wrong := range faultyOps() {
		code := wantOpFault(wrong)
		for _, place := range []int{0, 1, 3, 6, 7} {
			askBytes(t, fmt.Sprint(opText(wrong), " at ", place), impl.PackOps(slices.Insert(someOps(), place, wrong)), code, "")
		}
		askBytes(t, opText(wrong)+" alone", impl.PackOps([]impl.Op{wrong}), code, "")
		askBytes(t, opText(wrong)+" behind 60", impl.PackOps(append(slices.Repeat([]impl.Op{makeOp("a")}, 60), wrong)), code, "")
		// The codes of all ops are asked ahead of how many bytes there are.
		askBytes(t, opText(wrong)+" behind 8000 bytes", impl.PackOps(append(longList(8000), wrong)), code, "")
		askBytes(t, opText(wrong)+" behind too many", impl.PackOps(append(longList(8801), wrong)), code, "")
		askBytes(t, opText(wrong)+" ahead of too many", impl.PackOps(slices.Insert(longList(8801), 0, wrong)), code, "")
	}
	// Of several faults that of the first op counts, whatever it is.
	wrong := map[int64]impl.Op{impl.ErrForm: {}, impl.ErrText: makeOp("In"), impl.ErrRange: flagOp("in", 4, 0), impl.ErrMany: sized(416)}
	for first, a := range wrong {
		for _, b := range wrong {
			askBytes(t, opText(a)+opText(b), impl.PackOps([]impl.Op{makeOp("in"), a, purgeOp("in"), b}), first, "")
		}
	}
	askBytes(t, "one op of 416 bytes", impl.PackOps([]impl.Op{sized(416)}), impl.ErrMany, "")
	askBytes(t, "one op of 415 bytes", impl.PackOps([]impl.Op{sized(415)}), impl.OK, wantPackedAll([]impl.Op{sized(415)}))
}

func TestJournals(t *testing.T) {
	askJournal(t, "nil", impl.ReadJournal(nil), impl.OK, 0, nil)
	askJournal(t, "nothing", impl.ReadJournal([]byte{}), impl.OK, 0, nil)
	none := []string{"", "\x00", "\x00\x09", "\x00\x00", "\xff\xff\xff\xff", string(make([]byte, 400)), packedByHand[0].data[1:], string(wantPacked(makeOp("In"))), "x" + packedByHand[0].data}
	for _, behind := range none {
		askJournal(t, "no op first", impl.ReadJournal([]byte(behind)), impl.OK, 0, nil)
		askJournal(t, "no op first, and then some", impl.ReadJournal([]byte(behind+"\x00"+wantPackedAll(someOps()))), impl.OK, 0, nil)
		for _, list := range [][]impl.Op{someOps(), bareOps(), fullOps(), someOps()[:1], fullOps()[2:3]} {
			data := wantPackedAll(list)
			askJournal(t, fmt.Sprintf("%q behind them", behind[:min(len(behind), 20)]), impl.ReadJournal([]byte(data+behind)), impl.OK, len(data), list)
			// What is none ends them, also where ops stand behind it.
			askJournal(t, fmt.Sprintf("%q among them", behind[:min(len(behind), 20)]), impl.ReadJournal([]byte(data+behind+"\x00"+data)), impl.OK, len(data), list)
		}
	}
	for _, o := range journalOps() {
		askJournal(t, opText(o), impl.ReadJournal(wantPacked(o)), impl.OK, len(wantPacked(o)), []impl.Op{o})
	}
}

func TestJournalsOfTheMostBytesAndOfMore(t *testing.T) {
	for _, size := range []int{7600, 7985, 7999} {
		list := longList(size)
		data := append([]byte(wantPackedAll(list)), make([]byte, 8000-size)...)
		askJournal(t, fmt.Sprint(size, " of 8000 bytes"), impl.ReadJournal(data), impl.OK, size, list)
		askJournal(t, fmt.Sprint(size, " of 8001 bytes"), impl.ReadJournal(append(data, 0)), impl.ErrMany, 0, nil)
	}
	full := longList(8000)
	data := []byte(wantPackedAll(full))
	askJournal(t, "8000 bytes", impl.ReadJournal(data), impl.OK, 8000, full)
	last := len(wantPacked(full[len(full)-1]))
	askJournal(t, "8000 bytes but one", impl.ReadJournal(data[:7999]), impl.OK, 8000-last, full[:len(full)-1])
	askJournal(t, "8000 bytes and one", impl.ReadJournal(append(slices.Clone(data), 0)), impl.ErrMany, 0, nil)
	askJournal(t, "8001 bytes of ops", impl.ReadJournal([]byte(wantPackedAll(longList(8001)))), impl.ErrMany, 0, nil)
	askJournal(t, "8001 bytes that tell the first half of an op last", impl.ReadJournal([]byte(wantPackedAll(longList(9000)))[:8001]), impl.ErrMany, 0, nil)
	askJournal(t, "8000 bytes that tell no op", impl.ReadJournal(make([]byte, 8000)), impl.OK, 0, nil)
	askJournal(t, "8001 bytes that tell no op", impl.ReadJournal(make([]byte, 8001)), impl.ErrMany, 0, nil)
	askJournal(t, "very many bytes", impl.ReadJournal(bytes.Repeat(data, 100)), impl.ErrMany, 0, nil)
}

// endsOf are the places behind each op of a journal.
func endsOf(list []impl.Op) []int {
	ends := []int{0}
	for _, o := range list {
		ends = append(ends, ends[len(ends)-1]+len(wantPacked(o)))
	}
	return ends
}

func TestAJournalIsReadAsFarAsItIsWhole(t *testing.T) {
	for _, list := range [][]impl.Op{someOps(), slices.Concat(fullOps(), bareOps()), slices.Repeat([]impl.Op{makeOp("a")}, 20)} {
		data, ends := []byte(wantPackedAll(list)), endsOf(list)
		for size := range len(data) + 1 {
			whole, _ := slices.BinarySearch(ends, size+1)
			askJournal(t, fmt.Sprint(size, " bytes"), impl.ReadJournal(data[:size]), impl.OK, ends[whole-1], list[:whole-1])
		}
	}
}

func TestAJournalOfWhichAByteIsAnotherOneEndsThere(t *testing.T) {
	for _, list := range [][]impl.Op{someOps(), slices.Concat(bareOps(), fullOps()[:4])} {
		data, ends := []byte(wantPackedAll(list)), endsOf(list)
		for place := range data {
			whole, _ := slices.BinarySearch(ends, place+1)
			for _, change := range []byte{1, 2, 3, 16, 31, 128, 255} {
				data[place] ^= change
				askJournal(t, fmt.Sprint("byte ", place, " by ", change), impl.ReadJournal(data), impl.OK, ends[whole-1], list[:whole-1])
				data[place] ^= change
			}
		}
	}
}

func TestWhatWasDoneIsReadBackAndDoesTheSame(t *testing.T) {
	for seed := range int64(20) {
		draw := rand.New(rand.NewSource(seed))
		s := store(1)
		var done []impl.Op
		for len(done) < 60 {
			o := anyOp(draw)
			if r := impl.ApplyOp(s, o); r.Code == impl.OK {
				s = r.Store
				done = append(done, o)
			}
		}
		told := impl.PackOps(done)
		askBytes(t, fmt.Sprint("seed ", seed), told, impl.OK, wantPackedAll(done))
		read := impl.ReadJournal(told.Bytes)
		askJournal(t, fmt.Sprint("seed ", seed), read, impl.OK, len(told.Bytes), done)
		askBool(t, fmt.Sprint("seed ", seed), impl.SameOps(read.Ops, done), true)
		askStore(t, fmt.Sprint("seed ", seed), impl.ApplyAll(store(1), read.Ops), impl.StoreResult{Store: s})
		ends := endsOf(done)
		for range 40 {
			size := draw.Intn(len(told.Bytes) + 1)
			whole, _ := slices.BinarySearch(ends, size+1)
			askJournal(t, fmt.Sprint("seed ", seed, ", ", size, " bytes"), impl.ReadJournal(told.Bytes[:size]), impl.OK, ends[whole-1], done[:whole-1])
		}
	}
}
