package tests

import (
	"bytes"
	"encoding/binary"
	"fmt"
	"math/big"
	"math/rand"
	"slices"
	"strings"
	"testing"

	"loop.example/g00447/impl"
)

// wantSum is the document's sum as one number, of which the rest is taken in the end alone.
func wantSum(data []byte) uint16 {
	sum := big.NewInt(1)
	for _, b := range data {
		sum.Mul(sum, big.NewInt(31))
		sum.Add(sum, big.NewInt(int64(b)))
	}
	return uint16(sum.Mod(sum, big.NewInt(65521)).Uint64())
}

// wantInner are the bytes of an op between its length and its sum, also of one that has a fault.
func wantInner(o impl.Op) []byte {
	var out bytes.Buffer
	for _, part := range []any{
		uint8(o.Kind), uint8(len(o.Box)), []byte(o.Box), uint8(len(o.To)), []byte(o.To), uint8(len(o.Uids)), shortNumbers(o.Uids),
		uint8(o.Mode), uint8(o.Flags), uint16(o.Date), uint16(len(o.Data)), o.Data,
	} {
		if err := binary.Write(&out, binary.BigEndian, part); err != nil {
			panic(err)
		}
	}
	return out.Bytes()
}

func shortNumbers(list []int64) []uint16 {
	var short []uint16
	for _, n := range list {
		short = append(short, uint16(n))
	}
	return short
}

func wantPacked(o impl.Op) []byte {
	inner := wantInner(o)
	return summed(len(inner)+4, inner)
}

// summed has that length, whatever inner has, and a sum that is right.
func summed(length int, inner []byte) []byte {
	data := append(binary.BigEndian.AppendUint16(nil, uint16(length)), inner...)
	return binary.BigEndian.AppendUint16(data, wantSum(data))
}

// wantRead reads what is as long as its length tells from both ends, and asks all of it.
func wantRead(data []byte) (o impl.Op, used int64, ok bool) {
	if len(data) < 2 {
		return impl.Op{}, 0, false
	}
	length := int(binary.BigEndian.Uint16(data))
	if length < 4 || length > len(data) {
		return impl.Op{}, 0, false
	}
	sum := binary.BigEndian.Uint16(data[length-2 : length])
	inner := data[2 : length-2]
	isShort := false
	next := func(n int) []byte {
		if n > len(inner) {
			isShort = true
			return make([]byte, n)
		}
		piece := inner[:n:n]
		inner = inner[n:]
		return piece
	}
	one := func() int64 { return int64(next(1)[0]) }
	two := func() int64 { return int64(binary.BigEndian.Uint16(next(2))) }
	o.Kind = one()
	o.Box = string(next(int(one())))
	o.To = string(next(int(one())))
	for count := one(); count > 0; count-- {
		o.Uids = append(o.Uids, two())
	}
	o.Mode, o.Flags = one(), one()
	o.Date = two()
	o.Data = slices.Clone(next(int(two())))
	if isShort || len(inner) != 0 || sum != wantSum(data[:length-2]) || wantOpFault(o) != impl.OK {
		return impl.Op{}, 0, false
	}
	return o, int64(length), true
}

// askRead asks that the op and no other one is read, and where it ends.
func askRead(t *testing.T, what string, data []byte, want impl.Op, used int) {
	t.Helper()
	got := impl.ReadOp(data)
	if got.Code != impl.OK || got.Used != int64(used) || opWhole(got.Op) != opWhole(want) {
		t.Errorf("%s: got code %d, used %d, %s, want used %d, %s", what, got.Code, got.Used, opWhole(got.Op), used, opWhole(want))
	}
}

func askUnread(t *testing.T, what string, data []byte) {
	t.Helper()
	got := impl.ReadOp(data)
	if got.Code != impl.ErrText || got.Used != 0 || opWhole(got.Op) != opWhole(impl.Op{}) {
		t.Errorf("%s: % x: got code %d, used %d, %s, want code %d alone", what, data[:min(len(data), 40)], got.Code, got.Used, opWhole(got.Op), impl.ErrText)
	}
}

func askAsWanted(t *testing.T, what string, data []byte) bool {
	t.Helper()
	o, used, ok := wantRead(data)
	if ok {
		askRead(t, what, data, o, int(used))
	} else {
		askUnread(t, what, data)
	}
	return ok
}

// opWhole tells all that an op has, where nothing and nil are the same.
func opWhole(o impl.Op) string {
	return fmt.Sprintf("%d %q %q %v %d %d %d %q", o.Kind, o.Box, o.To, o.Uids, o.Mode, o.Flags, o.Date, o.Data)
}

// bareOps have nothing that their Kind may leave empty, and a name of one byte.
func bareOps() []impl.Op {
	return []impl.Op{
		makeOp("a"), eraseOp("a"), addOp("a", 0, 0, ""), flagOp("a", impl.ModeSet, 0), copyOp("a", "b"), moveOp("z", "y"), purgeOp("a"),
	}
}

// fullOps have all that their Kind may have, and as much as it may.
func fullOps() []impl.Op {
	uids := []int64{1, 2, 255, 256, 257, 999}
	return []impl.Op{
		makeOp("abcdefgh"), eraseOp("zzzzzzzz"), addOp("abcdefgh", 15, 9999, string(someBytes(400))), flagOp("abcdefgh", impl.ModeLess, 15, uids...),
		copyOp("abcdefgh", "ijklmnop", uids...), moveOp("abcdefgh", "abcdefgh", 994, 995, 996, 997, 998, 999), purgeOp("abcdefgh"),
	}
}

// journalOps are all edges that a journal has, each with the others of its Kind.
func journalOps() []impl.Op {
	list := slices.Concat(bareOps(), fullOps(), someOps())
	for _, uid := range []int64{1, 2, 255, 256, 257, 511, 512, 998, 999} {
		list = append(list, flagOp("in", impl.ModeMore, 1, uid), copyOp("in", "old", uid), moveOp("in", "old", uid))
		if uid < 998 {
			list = append(list, copyOp("in", "z", uid, uid+1, 999))
		}
	}
	for _, date := range []int64{0, 1, 255, 256, 257, 9998, 9999} {
		for _, size := range []int{0, 1, 2, 238, 239, 240, 241, 254, 255, 256, 257, 399, 400} {
			list = append(list, addOp("in", date%16, date, string(someBytes(size))))
		}
	}
	for mode := int64(1); mode <= 3; mode++ {
		for flags := range int64(16) {
			list = append(list, flagOp("in", mode, flags, 1, 300))
		}
	}
	for size := 1; size <= 8; size++ {
		name := "abcdefgh"[:size]
		list = append(list, makeOp(name), eraseOp(name), purgeOp(name), addOp(name, 1, 2, "x"), flagOp(name, 1, 2, 3), copyOp(name, "to", 3), moveOp("from", name, 3))
	}
	zeros, highs := strings.Repeat("\x00", 400), strings.Repeat("\xff", 400)
	return append(list, addOp("in", 0, 0, zeros), addOp("in", 15, 9999, highs), addOp("in", 0, 0, "\n"), addOp("in", 0, 0, string(allBytes())))
}

// packedByHand are written out byte by byte; their sums were worked out apart from the program.
var packedByHand = []struct {
	op   impl.Op
	data string
}{
	{makeOp("in"), "\x00\x10\x01\x02in\x00\x00\x00\x00\x00\x00\x00\x00\x35\xb7"},
	{eraseOp("a"), "\x00\x0f\x02\x01a\x00\x00\x00\x00\x00\x00\x00\x00\xe3\x34"},
	{addOp("in", 9, 256, "data"), "\x00\x14\x03\x02in\x00\x00\x00\x09\x01\x00\x00\x04data\x7d\x7e"},
	{flagOp("in", 1, 3, 1, 300), "\x00\x14\x04\x02in\x00\x02\x00\x01\x01\x2c\x01\x03\x00\x00\x00\x00\x00\xdc"},
	{copyOp("a", "b"), "\x00\x10\x05\x01a\x01b\x00\x00\x00\x00\x00\x00\x00\xb7\x85"},
	{moveOp("in", "old", 255, 999), "\x00\x17\x06\x02in\x03old\x02\x00\xff\x03\xe7\x00\x00\x00\x00\x00\x00\xdd\x06"},
	{purgeOp("abcdefgh"), "\x00\x16\x07\x08abcdefgh\x00\x00\x00\x00\x00\x00\x00\x00\x7d\x01"},
}

func TestOpsAsBytesByHand(t *testing.T) {
	for _, l := range packedByHand {
		askBytes(t, opText(l.op), impl.PackOp(l.op), impl.OK, l.data)
		askRead(t, opText(l.op), []byte(l.data), l.op, len(l.data))
	}
}

func TestOpsAreReadBackFromTheirBytes(t *testing.T) {
	behind := []string{"", "\x00", "\x00\x09", "\xff\xff\xff", packedByHand[0].data, packedByHand[0].data[:15], string(someBytes(9000))}
	for _, o := range journalOps() {
		askCode(t, opText(o), impl.OpFault(o), impl.OK)
		told := impl.PackOp(o)
		askBytes(t, opText(o), told, impl.OK, string(wantPacked(o)))
		for _, rest := range behind {
			askRead(t, opText(o), append(slices.Clone(told.Bytes), rest...), o, len(told.Bytes))
		}
	}
}

func TestOpsWithAFaultAreNotPacked(t *testing.T) {
	codes := map[int64]int{}
	for _, o := range slices.Concat(opArguments(), faultyOps()) {
		if code := wantOpFault(o); code != impl.OK {
			askBytes(t, opText(o), impl.PackOp(o), code, "")
			codes[code]++
		}
	}
	for _, code := range []int64{impl.ErrForm, impl.ErrText, impl.ErrRange, impl.ErrMany} {
		if codes[code] == 0 {
			t.Errorf("no op has the code %d", code)
		}
	}
}

// faultyOps have a fault each, and yet nothing that bytes could not tell.
func faultyOps() []impl.Op {
	list := []impl.Op{
		{}, {Kind: 0, Box: "in"}, {Kind: 8, Box: "in"}, {Kind: 255, Box: "in"}, {Kind: impl.OpMake}, {Kind: impl.OpCopy, Box: "in"}, {Kind: impl.OpMove, To: "in"},
		makeOp("abcdefghi"), makeOp("In"), makeOp("i n"), makeOp("\x00"), makeOp(strings.Repeat("a", 255)), purgeOp("`"), eraseOp("{"), copyOp("in", "Old", 1), moveOp("in", "abcdefghi", 1),
		flagOp("in", 0, 1, 1), flagOp("in", 4, 1, 1), flagOp("in", 255, 1, 1), flagOp("in", 1, 16, 1), flagOp("in", 1, 255, 1), addOp("in", 16, 0, "a"), addOp("in", 0, 10000, "a"), addOp("in", 0, 65535, ""),
		flagOp("in", 1, 1, 0), flagOp("in", 1, 1, 1000), flagOp("in", 1, 1, 65535), copyOp("in", "old", 2, 1), copyOp("in", "old", 2, 2), moveOp("in", "old", 256, 1), moveOp("in", "old", 0, 1),
		copyOp("in", "old", 1, 2, 3, 4, 5, 6, 7), moveOp("in", "old", times(255, 1)...), addOp("in", 0, 0, string(someBytes(401))), addOp("in", 0, 0, string(someBytes(60000))),
	}
	for _, o := range someOps() {
		for what, put := range things() {
			if !slices.Contains(thingsOfKind[o.Kind], what) {
				changed := o
				put(&changed)
				list = append(list, changed)
			}
		}
	}
	return list
}

func TestBytesOfAnOpWithAFaultAreNotRead(t *testing.T) {
	for _, o := range faultyOps() {
		if wantOpFault(o) == impl.OK {
			t.Fatalf("%s has no fault", opText(o))
		}
		askUnread(t, opText(o), wantPacked(o))
		askUnread(t, opText(o), append(wantPacked(o), packedByHand[0].data...))
	}
}

func TestTheTwoBytesOfTheLengthAndOfTheSum(t *testing.T) {
	lengths, highs, lows := map[byte]bool{}, map[bool]bool{}, map[bool]bool{}
	for date := range int64(1200) {
		o := addOp("a", 0, date, string(someBytes(int(date%401))))
		data := impl.PackOp(o).Bytes
		if len(data) != 15+len(o.Data) || int(data[0])*256+int(data[1]) != len(data) {
			t.Errorf("%s: %d bytes, of which % x tell how many", opText(o), len(data), data[:2])
		}
		sum := data[len(data)-2:]
		if want := wantSum(data[:len(data)-2]); uint16(sum[0])*256+uint16(sum[1]) != want {
			t.Errorf("%s: the sum is told as % x, want %d", opText(o), sum, want)
		}
		lengths[data[0]], highs[sum[0] == 0], lows[sum[1] == 0] = true, true, true
		askRead(t, opText(o), data, o, len(data))
	}
	if len(lengths) != 2 || len(highs) != 2 || len(lows) != 2 {
		t.Errorf("not each kind of length and sum was asked: %v %v %v", lengths, highs, lows)
	}
	for size, want := range map[int]string{240: "\x00\xff", 241: "\x01\x00", 242: "\x01\x01", 385: "\x01\x90"} {
		askBool(t, fmt.Sprint(size, " bytes of Data"), strings.HasPrefix(string(impl.PackOp(addOp("a", 0, 0, string(someBytes(size)))).Bytes), want), true)
	}
}

func TestASumThatLeavesTheSameIsAnotherOne(t *testing.T) {
	asked := map[uint16]bool{}
	for n := range 400000 {
		o := addOp("in", 3, 77, fmt.Sprint(n))
		data := impl.PackOp(o).Bytes
		end := len(data) - 2
		sum := binary.BigEndian.Uint16(data[end:])
		if sum > 14 {
			continue
		}
		askRead(t, "the sum itself", data, o, len(data))
		binary.BigEndian.PutUint16(data[end:], sum+65521)
		askUnread(t, fmt.Sprint("a sum of ", sum, " and 65521"), data)
		asked[sum] = true
	}
	if !asked[0] || !asked[14] {
		t.Errorf("not all sums that are so small were asked: %v", asked)
	}
}

func TestAnOpThatIsNotWholeIsNotRead(t *testing.T) {
	askUnread(t, "nil", nil)
	askUnread(t, "nothing", []byte{})
	for b := range 256 {
		askUnread(t, "one byte", []byte{byte(b)})
	}
	for _, o := range journalOps() {
		data := impl.PackOp(o).Bytes
		for size := range len(data) {
			askUnread(t, fmt.Sprint(size, " bytes of ", opText(o)), data[:size])
		}
		for from := 1; from < min(len(data), 30); from++ {
			askUnread(t, fmt.Sprint(opText(o), " from ", from), data[from:])
		}
	}
}

func TestAnOpOfWhichAByteIsAnotherOneIsNotRead(t *testing.T) {
	for _, o := range slices.Concat(bareOps(), someOps(), fullOps()) {
		data := impl.PackOp(o).Bytes
		whole := append(slices.Clone(data), packedByHand[2].data...)
		for place := range data {
			for change := 1; change < 256; change++ {
				whole[place] ^= byte(change)
				askUnread(t, fmt.Sprint(opText(o), " with byte ", place, " by ", change), whole[:len(data)])
				askUnread(t, fmt.Sprint(opText(o), " with byte ", place, " by ", change, " and more behind"), whole)
				whole[place] ^= byte(change)
			}
		}
	}
}

func TestLengthsThatAreNotThatOfTheOp(t *testing.T) {
	behind := string(someBytes(500)) + packedByHand[0].data
	for _, o := range slices.Concat(someOps(), fullOps()) {
		inner := wantInner(o)
		own := len(inner) + 4
		for _, length := range []int{0, 1, 2, 3, 4, 5, 13, 14, 15, 16, 20, own - 2, own - 1, own, own + 1, own + 2, own + 256, own + 65536 - 256, 255, 256, 422, 423, 65534, 65535} {
			// The sum stands where the op ends, and where it would end by its length.
			for _, data := range [][]byte{summed(length, inner), summed(length, append(slices.Clone(inner), behind...))} {
				for _, rest := range []string{"", "\x00", behind} {
					askAsWanted(t, fmt.Sprint(opText(o), " with length ", length), append(slices.Clone(data), rest...))
				}
				if length != own {
					askUnread(t, fmt.Sprint(opText(o), " with length ", length), data)
				}
			}
			if length != own && length >= 4 && length < own {
				askUnread(t, fmt.Sprint(opText(o), " cut by length ", length), summed(length, inner[:length-4]))
			}
			if length > own && length < 1000 {
				askUnread(t, fmt.Sprint(opText(o), " put longer by length ", length), summed(length, append(slices.Clone(inner), make([]byte, length-own)...)))
			}
		}
	}
}

// innerLengths are the places, in the bytes of an op, that tell how many of something there are.
func innerLengths(o impl.Op) map[string]int {
	to := 4 + len(o.Box)
	uids := to + 1 + len(o.To)
	data := uids + 1 + 2*len(o.Uids) + 4
	return map[string]int{"Box": 3, "To": to, "Uids": uids, "Data, the higher": data, "Data, the lower": data + 1}
}

func TestLengthsInsideThatDoNotFit(t *testing.T) {
	for _, o := range slices.Concat(bareOps(), someOps(), fullOps()) {
		for what, place := range innerLengths(o) {
			for change := 1; change < 256; change++ {
				inner := wantInner(o)
				inner[place-2] += byte(change)
				data := summed(len(inner)+4, inner)
				asking := fmt.Sprint(opText(o), ": length of ", what, " by ", change)
				askUnread(t, asking, data)
				askUnread(t, asking, append(slices.Clone(data), someBytes(700)...))
			}
		}
	}
}

func TestDataThatIsOneByteLongerOrShorterThanTold(t *testing.T) {
	for _, size := range []int{1, 2, 3, 255, 256, 257, 399} {
		o := addOp("in", 1, 2, string(someBytes(size)))
		inner := wantInner(o)
		askUnread(t, "a byte more", summed(len(inner)+5, append(slices.Clone(inner), 0)))
		askUnread(t, "a byte less", summed(len(inner)+3, inner[:len(inner)-1]))
		askUnread(t, "two bytes more", summed(len(inner)+6, append(slices.Clone(inner), 0, 0)))
		askUnread(t, "two bytes less", summed(len(inner)+2, inner[:len(inner)-2]))
	}
}

// turnedBytes are the bytes of an op with some of them drawn anew, and often with a length and a sum that are right.
func turnedBytes(draw *rand.Rand) []byte {
	inner := wantInner(anyOp(draw))
	for range draw.Intn(3) {
		inner[draw.Intn(len(inner))] = byte(draw.Intn(12))
	}
	length := len(inner) + 4
	if draw.Intn(4) == 0 {
		length += draw.Intn(5) - 2
	}
	data := summed(length, inner)
	if draw.Intn(4) == 0 {
		data[draw.Intn(len(data))]++
	}
	return append(data, someBytes(draw.Intn(4))...)
}

func TestWhateverIsReadIsTheOpWhoseBytesStandThere(t *testing.T) {
	draw := rand.New(rand.NewSource(9))
	read := map[bool]int{}
	for range 40000 {
		data := turnedBytes(draw)
		read[askAsWanted(t, "bytes", data)]++
		if got := impl.ReadOp(data); got.Code == impl.OK {
			askBytes(t, opText(got.Op), impl.PackOp(got.Op), impl.OK, string(data[:got.Used]))
		}
	}
	if read[true] < 5000 || read[false] < 5000 {
		t.Errorf("too few of one kind were asked: %v", read)
	}
	for size := range 40 {
		for b := range 256 {
			askUnread(t, "the same byte", bytes.Repeat([]byte{byte(b)}, size))
		}
		askAsWanted(t, "some bytes", someBytes(size))
	}
	askUnread(t, "many zeros", make([]byte, 1<<20))
	askUnread(t, "many others", bytes.Repeat([]byte{255}, 1<<20))
}
