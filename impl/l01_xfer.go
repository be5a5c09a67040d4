package impl

const OK = 0
const ErrForm = 1
const ErrMany = 2
const ErrRange = 3
const ErrNone = 4
const ErrText = 5
const ErrTaken = 6
const ErrCode = 7
const ErrChars = 8
const ErrState = 9
const ErrFull = 10
const MaxBytes = 400

const maxLetters = 4 * MaxBytes
const lineFeed = 10
const tab = 9
const blank = 32

// Arrays, not texts: a value is its place here, so that writing and reading ask the same table.
var baseDigits = [64]byte{
	'A', 'B', 'C', 'D', 'E', 'F', 'G', 'H', 'I', 'J', 'K', 'L', 'M',
	'N', 'O', 'P', 'Q', 'R', 'S', 'T', 'U', 'V', 'W', 'X', 'Y', 'Z',
	'a', 'b', 'c', 'd', 'e', 'f', 'g', 'h', 'i', 'j', 'k', 'l', 'm',
	'n', 'o', 'p', 'q', 'r', 's', 't', 'u', 'v', 'w', 'x', 'y', 'z',
	'0', '1', '2', '3', '4', '5', '6', '7', '8', '9', '+', '/',
}

var hexDigits = [16]byte{
	'0', '1', '2', '3', '4', '5', '6', '7', '8', '9', 'A', 'B', 'C', 'D', 'E', 'F',
}

type IntResult struct {
	Code  int64
	Value int64
}
type IntsResult struct {
	Code int64
	List []int64
}
type BytesResult struct {
	Code  int64
	Bytes []byte
}
type TextResult struct {
	Code int64
	Text string
}

func EncodeBase(data []byte) TextResult {
	if len(data) > MaxBytes {
		return TextResult{Code: ErrMany}
	}
	var letters []byte
	rest := data
	for len(rest) >= 3 {
		bits := uint32(rest[0])<<16 | uint32(rest[1])<<8 | uint32(rest[2])
		letters = appendDigits(letters, bits, 4)
		rest = rest[3:]
	}
	switch len(rest) {
	case 1:
		letters = appendDigits(letters, uint32(rest[0])<<16, 2)
		letters = append(letters, '=', '=')
	case 2:
		letters = appendDigits(letters, uint32(rest[0])<<16|uint32(rest[1])<<8, 3)
		letters = append(letters, '=')
	}
	return TextResult{Text: string(letters)}
}

// appendDigits appends the first count of the four digits of 24 bits.
func appendDigits(letters []byte, bits uint32, count int) []byte {
	for range count {
		letters = append(letters, baseDigits[bits>>18&63])
		bits <<= 6
	}
	return letters
}

func DecodeBase(text string) BytesResult {
	if len(text) > maxLetters {
		return BytesResult{Code: ErrMany}
	}
	if len(text)%4 != 0 {
		return BytesResult{Code: ErrCode}
	}
	var data []byte
	for at := 0; at < len(text); at += 4 {
		bits, count := readGroup(text[at : at+4])
		isLast := at+4 == len(text)
		if count == 0 || count < 3 && !isLast {
			return BytesResult{Code: ErrCode}
		}
		data = appendBytes(data, bits, count)
	}
	// Only now, as a wrong digit is told ahead of too many bytes.
	if len(data) > MaxBytes {
		return BytesResult{Code: ErrMany}
	}
	return BytesResult{Bytes: data}
}

// readGroup reads four letters as 24 bits, of which the first count bytes are told; count is 0 where no bytes have these letters.
func readGroup(group string) (bits uint32, count int) {
	digits := withoutFill(group)
	if len(digits) < 2 {
		return 0, 0
	}
	for at := range 4 {
		bits <<= 6
		if at >= len(digits) {
			continue
		}
		value, ok := baseValue(digits[at])
		if !ok {
			return 0, 0
		}
		bits |= value
	}
	count = len(digits) - 1
	// Bits behind the last byte would let several texts tell the same bytes.
	if bits<<(8+8*uint32(count)) != 0 {
		return 0, 0
	}
	return bits, count
}

func withoutFill(group string) string {
	for len(group) > 0 && group[len(group)-1] == '=' {
		group = group[:len(group)-1]
	}
	return group
}

func baseValue(letter byte) (uint32, bool) {
	for value := range uint32(64) {
		if baseDigits[value] == letter {
			return value, true
		}
	}
	return 0, false
}

// appendBytes appends the first count of the three bytes of 24 bits.
func appendBytes(data []byte, bits uint32, count int) []byte {
	for range count {
		data = append(data, byte(bits>>16))
		bits <<= 8
	}
	return data
}

func EncodeQuoted(data []byte) TextResult {
	if len(data) > MaxBytes {
		return TextResult{Code: ErrMany}
	}
	var letters []byte
	for at, b := range data {
		if standsAsItself(data[at:]) {
			letters = append(letters, b)
		} else {
			letters = append(letters, '=', hexDigits[b>>4], hexDigits[b&15])
		}
	}
	return TextResult{Text: string(letters)}
}

// standsAsItself asks of the first byte of rest; what is behind it counts, as blanks at the end of a line get lost on the way.
func standsAsItself(rest []byte) bool {
	switch b := rest[0]; b {
	case lineFeed:
		return true
	case blank, tab:
		return len(rest) > 1 && rest[1] != lineFeed
	default:
		return b >= 33 && b <= 126 && b != '='
	}
}

func DecodeQuoted(text string) BytesResult {
	if len(text) > maxLetters {
		return BytesResult{Code: ErrMany}
	}
	var data []byte
	rest := []byte(text)
	for len(rest) > 0 {
		if standsAsItself(rest) {
			data = append(data, rest[0])
			rest = rest[1:]
			continue
		}
		if breaksLine(rest) {
			rest = rest[2:]
			continue
		}
		b, ok := readQuoted(rest)
		if !ok {
			return BytesResult{Code: ErrCode}
		}
		data = append(data, b)
		rest = rest[3:]
	}
	// Only now, as a wrong letter is told ahead of too many bytes.
	if len(data) > MaxBytes {
		return BytesResult{Code: ErrMany}
	}
	return BytesResult{Bytes: data}
}

func breaksLine(rest []byte) bool {
	return len(rest) >= 2 && rest[0] == '=' && rest[1] == lineFeed
}

// readQuoted reads the byte that rest begins with as `=` and two digits.
func readQuoted(rest []byte) (byte, bool) {
	if len(rest) < 3 || rest[0] != '=' {
		return 0, false
	}
	high, highOk := hexValue(rest[1])
	low, lowOk := hexValue(rest[2])
	if !highOk || !lowOk {
		return 0, false
	}
	return high<<4 | low, true
}

func hexValue(letter byte) (uint8, bool) {
	for value := range uint8(16) {
		if hexDigits[value] == letter {
			return value, true
		}
	}
	return 0, false
}

func IsPlain(data []byte) bool {
	for _, b := range data {
		if b < 1 || b > 127 {
			return false
		}
	}
	return true
}

func BaseDigit(v int64) IntResult {
	if v < 0 || v > 63 {
		return IntResult{Code: ErrRange}
	}
	return IntResult{Value: int64(baseDigits[v])}
}
