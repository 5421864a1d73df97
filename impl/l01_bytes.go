package impl

import "strconv"

const MaxText = 4000
const MaxLetters = 6400
const MaxNum = 999999999999999
const MaxHex = 268435455
const LnOk = 0
const LnShort = 1
const LnBad = 2

const hexDigits = 7
const tokenSigns = "!#$%&'*+-.^_|~`"
const lettersOfFives = "ABCDEFGHIJKLMNOPQRSTUVWXYZ234567"

type Cur struct {
	Text string
	At   int
}

// Texts are rows of bytes of any values, so letters are folded one byte at a time: the library's folding would change what is not UTF-8.
func Fold(s string) string {
	out := []byte(s)
	for i := range len(out) {
		out[i] = smallByte(out[i])
	}
	return string(out)
}

func SameFold(a string, b string) bool {
	return Fold(a) == Fold(b)
}

func smallByte(b byte) byte {
	if b >= 'A' && b <= 'Z' {
		return b + ('a' - 'A')
	}
	return b
}

func Trim(s string) string {
	from, to := 0, len(s)
	for from < to && gapByte(s[from]) {
		from++
	}
	for from < to && gapByte(s[to-1]) {
		to--
	}
	return s[from:to]
}

func gapByte(b byte) bool {
	return b == ' ' || b == '\t'
}

func Token(s string) bool {
	if s == "" || len(s) > MaxText {
		return false
	}
	for i := range len(s) {
		if !tokenByte(s[i]) {
			return false
		}
	}
	return true
}

func tokenByte(b byte) bool {
	if letterByte(b) || digitByte(b) {
		return true
	}
	for i := range len(tokenSigns) {
		if tokenSigns[i] == b {
			return true
		}
	}
	return false
}

func letterByte(b byte) bool {
	small := smallByte(b)
	return small >= 'a' && small <= 'z'
}

func digitByte(b byte) bool {
	return b >= '0' && b <= '9'
}

func DecText(n int) string {
	if n < 0 || n > MaxNum {
		return ""
	}
	return strconv.Itoa(n)
}

func ReadDec(s string) (int, bool) {
	if s == "" || s[0] == '0' && s != "0" {
		return 0, false
	}
	n := 0
	for i := range len(s) {
		if !digitByte(s[i]) {
			return 0, false
		}
		n = n*10 + int(s[i]-'0')
		// Asked at each digit, so that a long row of digits can't wrap round.
		if n > MaxNum {
			return 0, false
		}
	}
	return n, true
}

func HexText(n int) string {
	if n < 0 || n > MaxHex {
		return ""
	}
	return strconv.FormatInt(int64(n), 16)
}

func ReadHex(s string) (int, bool) {
	if s == "" || len(s) > hexDigits {
		return 0, false
	}
	n := 0
	for i := range len(s) {
		d := hexValue(s[i])
		if d < 0 {
			return 0, false
		}
		n = n*16 + d
	}
	return n, true
}

// hexValue is -1 for a byte that is no digit.
func hexValue(b byte) int {
	small := smallByte(b)
	switch {
	case digitByte(b):
		return int(b - '0')
	case small >= 'a' && small <= 'f':
		return int(small-'a') + 10
	}
	return -1
}

func Base32(s string) string {
	if len(s) > MaxText {
		return ""
	}
	var out []byte
	bits, held := 0, 0
	for i := range len(s) {
		bits = bits<<8 | int(s[i])
		held += 8
		for held >= 5 {
			held -= 5
			out = append(out, lettersOfFives[bits>>held])
			bits &= 1<<held - 1
		}
	}
	if held > 0 {
		out = append(out, lettersOfFives[bits<<(5-held)])
	}
	return string(out)
}

func ReadBase32(s string) (string, bool) {
	if len(s) > MaxLetters {
		return "", false
	}
	var out []byte
	bits, held := 0, 0
	for i := range len(s) {
		five := fiveValue(s[i])
		if five < 0 {
			return "", false
		}
		bits = bits<<5 | five
		held += 5
		if held >= 8 {
			held -= 8
			out = append(out, byte(bits>>held))
			bits &= 1<<held - 1
		}
	}
	// Five bits or more left over are a letter that no text needs; a bit among fewer is an end not filled with zeros.
	if held >= 5 || bits != 0 {
		return "", false
	}
	return string(out), true
}

// fiveValue is -1 for a byte that is no letter of Base32.
func fiveValue(b byte) int {
	switch {
	case b >= 'A' && b <= 'Z':
		return int(b - 'A')
	case b >= '2' && b <= '7':
		return int(b-'2') + 26
	}
	return -1
}

func Elements(s string) []string {
	if len(s) > MaxText {
		return nil
	}
	var list []string
	from, at := 0, 0
outside:
	if at == len(s) {
		return withPiece(list, s[from:])
	}
	at++
	switch s[at-1] {
	case ',':
		list = withPiece(list, s[from:at-1])
		from = at
	case '"':
		goto inside
	}
	goto outside
inside:
	if at == len(s) {
		return withPiece(list, s[from:])
	}
	at++
	switch s[at-1] {
	case '"':
		goto outside
	case '\\':
		goto behind
	}
	goto inside
behind:
	if at < len(s) {
		at++
	}
	goto inside
}

func withPiece(list []string, piece string) []string {
	piece = Trim(piece)
	if piece == "" {
		return list
	}
	return append(list, piece)
}

func Quote(s string) (string, bool) {
	if len(s) > MaxText {
		return "", false
	}
	out := []byte{'"'}
	for i := range len(s) {
		if !plainByte(s[i]) {
			return "", false
		}
		if quoteSign(s[i]) {
			out = append(out, '\\')
		}
		out = append(out, s[i])
	}
	out = append(out, '"')
	return string(out), true
}

func Unquote(s string) (string, bool) {
	last := len(s) - 1
	if last < 1 || s[0] != '"' || s[last] != '"' {
		return "", false
	}
	var out []byte
	for at := 1; at < last; at++ {
		if s[at] == '\\' {
			at++
			// What the backslash takes must not be the quote that ends s.
			if at == last {
				return "", false
			}
		} else if s[at] == '"' {
			return "", false
		}
		if !plainByte(s[at]) || len(out) == MaxText {
			return "", false
		}
		out = append(out, s[at])
	}
	return string(out), true
}

func plainByte(b byte) bool {
	return b == '\t' || b >= 32 && b != 127
}

func quoteSign(b byte) bool {
	return b == '"' || b == '\\'
}

func CurOk(c Cur) bool {
	return c.inside()
}

func TakeLine(c Cur) (string, Cur, int) {
	if !c.inside() {
		return "", Cur{}, LnBad
	}
	n := c.beforeLineEnd()
	end := c.behind(n)
	switch {
	case end.left() == 0:
		return "", Cur{}, LnShort
	case end.next() == '\n':
		return "", Cur{}, LnBad
	case end.left() == 1:
		return "", Cur{}, LnShort
	case end.behind(1).next() != '\n':
		return "", Cur{}, LnBad
	}
	return c.part(n), end.behind(2), LnOk
}

func TakeN(c Cur, n int) (string, Cur, bool) {
	if !c.inside() || n < 0 || n > c.left() {
		return "", Cur{}, false
	}
	return c.part(n), c.behind(n), true
}

func (c Cur) inside() bool {
	return c.At >= 0 && c.At <= len(c.Text)
}

// The methods below are asked only of a cursor that is inside its text, and for no more bytes than are left.

func (c Cur) left() int {
	return len(c.Text) - c.At
}

func (c Cur) next() byte {
	return c.Text[c.At]
}

func (c Cur) part(n int) string {
	return c.Text[c.At : c.At+n]
}

func (c Cur) behind(n int) Cur {
	return Cur{Text: c.Text, At: c.At + n}
}

func (c Cur) beforeLineEnd() int {
	n := 0
	for n < c.left() && c.Text[c.At+n] != '\r' && c.Text[c.At+n] != '\n' {
		n++
	}
	return n
}
