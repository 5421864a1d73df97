package tests

import (
	"crypto/sha1"
	"encoding"
	"encoding/base32"
	"encoding/binary"
	"encoding/hex"
	"fmt"
	"math"
	"slices"
	"strconv"
	"strings"
	"testing"

	"loop.example/g00651/impl"
)

const topWord = 4294967295

func startWords() []int {
	return []int{1732584193, 4023233417, 2562383102, 271733878, 3285377520}
}

// wordRows are rows of five words: the start, the bounds, and words of which sums pass the top.
func wordRows() [][]int {
	rows := [][]int{
		startWords(),
		{0, 0, 0, 0, 0},
		{topWord, topWord, topWord, topWord, topWord},
		{0, topWord, 0, topWord, 0},
		{topWord, 0, topWord, 0, topWord},
		{1, 2147483648, 2147483647, topWord - 1, 4},
	}
	seed := uint32(11)
	for range 40 {
		row := make([]int, 5)
		for i := range row {
			seed = seed*1664525 + 1013904223
			row[i] = int(seed)
		}
		rows = append(rows, row)
	}
	return rows
}

// wordBlocks are blocks of 64 bytes.
func wordBlocks() []string {
	list := []string{strings.Repeat("\x00", 64), strings.Repeat("\xff", 64), strings.Repeat("\x80", 64), "\x80" + strings.Repeat("\x00", 63), strings.Repeat("\x00", 63) + "\x01"}
	for i := range 20 {
		list = append(list, mixedBytes(64, uint32(i)))
	}
	return list
}

// noWords are numbers outside the bounds of a word, some of which are words once their upper bits are lost.
func noWords() []int {
	return []int{-1, topWord + 1, topWord + 2, -topWord, -topWord - 1, 1 << 33, 1<<32 + 1732584193, math.MaxInt, math.MinInt}
}

// wrongRows are lists that are not five words.
func wrongRows() [][]int {
	list := [][]int{nil, {}, startWords()[:1], startWords()[:4], append(startWords(), 0), append(startWords(), startWords()...)}
	for i := range 5 {
		for _, n := range noWords() {
			row := startWords()
			row[i] = n
			list = append(list, row)
		}
	}
	return list
}

// libraryState is the library's digest in the middle of its work.
func libraryState(t *testing.T, h []int, rest string, size int) encoding.BinaryMarshaler {
	t.Helper()
	state := []byte("sha\x01")
	for _, w := range h {
		state = binary.BigEndian.AppendUint32(state, uint32(w))
	}
	state = append(state, rest...)
	state = append(state, make([]byte, 64-len(rest))...)
	state = binary.BigEndian.AppendUint64(state, uint64(size))
	d := sha1.New()
	if err := d.(encoding.BinaryUnmarshaler).UnmarshalBinary(state); err != nil {
		t.Fatal(err)
	}
	return d.(encoding.BinaryMarshaler)
}

// libraryAdd is what ShaAdd must answer, by the library.
func libraryAdd(t *testing.T, s impl.Sha, b string) impl.Sha {
	t.Helper()
	d := libraryState(t, s.H, s.Rest, s.Size)
	d.(interface{ Write([]byte) (int, error) }).Write([]byte(b))
	state, err := d.MarshalBinary()
	if err != nil {
		t.Fatal(err)
	}
	var h []int
	for i := range 5 {
		h = append(h, int(binary.BigEndian.Uint32(state[4+4*i:])))
	}
	size := s.Size + len(b)
	return impl.Sha{H: h, Rest: string(state[24 : 24+size%64]), Size: size}
}

func libraryEnd(t *testing.T, s impl.Sha) string {
	t.Helper()
	d := libraryState(t, s.H, s.Rest, s.Size)
	return string(d.(interface{ Sum([]byte) []byte }).Sum(nil))
}

func librarySha1(b string) string {
	d := sha1.Sum([]byte(b))
	return string(d[:])
}

func sameSha(a, b impl.Sha) bool {
	return slices.Equal(a.H, b.H) && a.Rest == b.Rest && a.Size == b.Size
}

func zeroSha(s impl.Sha) bool {
	return len(s.H) == 0 && s.Rest == "" && s.Size == 0
}

func TestConstantsOfDigests(t *testing.T) {
	if impl.ShaSize != 20 {
		t.Error("ShaSize is not the document's")
	}
}

func TestShaNew(t *testing.T) {
	s := impl.ShaNew()
	if !slices.Equal(s.H, []int{0x67452301, 0xefcdab89, 0x98badcfe, 0x10325476, 0xc3d2e1f0}) || s.Rest != "" || s.Size != 0 {
		t.Errorf("ShaNew is %#v", s)
	}
	if !impl.ShaOk(s) {
		t.Error("ShaNew is not ShaOk")
	}
	s.H[0] = 0
	if impl.ShaNew().H[0] != 0x67452301 {
		t.Error("two of ShaNew share their words")
	}
}

func TestShaOkWords(t *testing.T) {
	for _, h := range wordRows() {
		if !impl.ShaOk(impl.Sha{H: h}) {
			t.Errorf("the words %v are refused", h)
		}
	}
	for _, h := range wrongRows() {
		if impl.ShaOk(impl.Sha{H: h}) {
			t.Errorf("the list %v is taken", h)
		}
	}
	for i := range 5 {
		for _, w := range []int{0, topWord} {
			h := startWords()
			h[i] = w
			if !impl.ShaOk(impl.Sha{H: h}) {
				t.Errorf("word %d is refused as %d", w, i)
			}
		}
	}
}

func TestShaOkSizes(t *testing.T) {
	sizes := []int{0, 1, 2, 55, 56, 62, 63, 64, 65, 127, 128, 129, 6400, 6463, impl.MaxNum - 64, impl.MaxNum - 63, impl.MaxNum - 1, impl.MaxNum,
		impl.MaxNum + 1, impl.MaxNum + 2, impl.MaxNum + 64, math.MaxInt, -1, -2, -63, -64, -65, -128, math.MinInt}
	for _, size := range sizes {
		for rest := range 130 {
			want := size >= 0 && size <= impl.MaxNum && rest == size%64
			if got := impl.ShaOk(impl.Sha{H: startWords(), Rest: strings.Repeat("r", rest), Size: size}); got != want {
				t.Errorf("ShaOk of Size %d with %d bytes is %#v", size, rest, got)
			}
		}
	}
	if impl.ShaOk(impl.Sha{}) {
		t.Error("the zero value is ShaOk")
	}
}

func TestTurn(t *testing.T) {
	for _, row := range wordRows() {
		for _, w := range row {
			bits := fmt.Sprintf("%032b", w)
			for n := range 32 {
				want, _ := strconv.ParseUint(bits[n:]+bits[:n], 2, 32)
				if got := impl.Turn(w, n); got != int(want) {
					t.Fatalf("Turn(%d, %d) is %d, not %d", w, n, got, want)
				}
			}
		}
	}
}

func TestTurnByHand(t *testing.T) {
	for _, c := range []struct{ w, n, want int }{
		{0, 0, 0}, {0, 31, 0}, {topWord, 0, topWord}, {topWord, 1, topWord}, {topWord, 31, topWord}, {1, 0, 1}, {1, 1, 2}, {1, 31, 2147483648},
		{2147483648, 1, 1}, {2147483648, 31, 1073741824}, {0x12345678, 4, 0x23456781}, {0x12345678, 28, 0x81234567}, {topWord - 1, 1, topWord - 2},
		{-1, 0, -1}, {-1, 5, -1}, {topWord + 1, 0, -1}, {topWord + 1, 1, -1}, {1, -1, -1}, {1, 32, -1}, {1, 33, -1}, {0, 32, -1}, {0, -1, -1},
		{topWord, 32, -1}, {-1, -1, -1}, {math.MaxInt, 1, -1}, {math.MinInt, 1, -1}, {1, math.MaxInt, -1}, {1, math.MinInt, -1}, {1, 1 << 32, -1},
	} {
		if got := impl.Turn(c.w, c.n); got != c.want {
			t.Errorf("Turn(%d, %d) is %d, not %d", c.w, c.n, got, c.want)
		}
	}
}

func TestSchedule(t *testing.T) {
	for _, block := range wordBlocks() {
		got := impl.Schedule(block)
		if len(got) != 80 {
			t.Fatalf("%d words", len(got))
		}
		for i := range 16 {
			if want := int(binary.BigEndian.Uint32([]byte(block[4*i:]))); got[i] != want {
				t.Errorf("word %d of %q is %d, not %d", i, block, got[i], want)
			}
		}
		for i := 16; i < 80; i++ {
			mixed := got[i-3] ^ got[i-8] ^ got[i-14] ^ got[i-16]
			if want := mixed*2%(topWord+1) + mixed/(1<<31); got[i] != want {
				t.Errorf("word %d of %q is %d, not %d", i, block, got[i], want)
			}
		}
	}
	got := impl.Schedule("\x01\x02\x03\x04" + strings.Repeat("\x00", 56) + "\xf0\xe0\xd0\xc0")
	if got[0] != 0x01020304 || got[15] != 0xf0e0d0c0 || got[16] != 0x02040608 || got[18] != 0xe1c1a181 {
		t.Errorf("%x", got)
	}
}

func wrongBlocks() []string {
	return []string{"", "x", strings.Repeat("b", 63), strings.Repeat("b", 65), strings.Repeat("b", 128), strings.Repeat("b", 20)}
}

func TestWrongBlocks(t *testing.T) {
	for _, block := range wrongBlocks() {
		if got := impl.Schedule(block); len(got) != 0 {
			t.Errorf("Schedule of %d bytes has %d words", len(block), len(got))
		}
		if got := impl.Compress(startWords(), block); len(got) != 0 {
			t.Errorf("Compress of %d bytes has %d words", len(block), len(got))
		}
	}
}

func TestCompress(t *testing.T) {
	for _, h := range wordRows() {
		for _, block := range wordBlocks() {
			want := libraryAdd(t, impl.Sha{H: h}, block).H
			if got := impl.Compress(h, block); !slices.Equal(got, want) {
				t.Errorf("Compress(%v, %q) is %v, not %v", h, block, got, want)
			}
		}
	}
}

func TestCompressByHand(t *testing.T) {
	// The block of the text abc with its ending, and the digest that is told for it everywhere.
	block := "abc\x80" + strings.Repeat("\x00", 59) + "\x18"
	want := []int{0xa9993e36, 0x4706816a, 0xba3e2571, 0x7850c26c, 0x9cd0d89d}
	if got := impl.Compress(startWords(), block); !slices.Equal(got, want) {
		t.Errorf("the words are %x", got)
	}
}

func TestCompressRefusesLists(t *testing.T) {
	for _, h := range wrongRows() {
		for _, block := range []string{wordBlocks()[0], wordBlocks()[9], "x"} {
			if got := impl.Compress(h, block); len(got) != 0 {
				t.Errorf("Compress takes the list %v", h)
			}
		}
	}
}

// steppedText is a text whose digests are written out below.
func steppedText(n int) string {
	b := make([]byte, n)
	for i := range b {
		b[i] = byte(i*7 + 1)
	}
	return string(b)
}

func TestKnownDigests(t *testing.T) {
	letters := func(n int) string { return strings.Repeat("a", n) }
	for _, c := range []struct{ text, want string }{
		{"", "da39a3ee5e6b4b0d3255bfef95601890afd80709"},
		{"abc", "a9993e364706816aba3e25717850c26c9cd0d89d"},
		{"abcdbcdecdefdefgefghfghighijhijkijkljklmklmnlmnomnopnopq", "84983e441c3bd26ebaae4aa1f95129e5e54670f1"},
		{letters(1), "86f7e437faa5a7fce15d1ddcb9eaeaea377667b8"},
		{letters(55), "c1c8bbdc22796e28c0e15163d20899b65621d65a"},
		{letters(56), "c2db330f6083854c99d4b5bfb6e8f29f201be699"},
		{letters(63), "03f09f5b158a7a8cdad920bddc29b81c18a551f5"},
		{letters(64), "0098ba824b5c16427bd7a1122a5a442a25ec644d"},
		{letters(65), "11655326c708d70319be2610e8a57d9a5b959d3b"},
		{letters(119), "ee971065aaa017e0632a8ca6c77bb3bf8b1dfc56"},
		{letters(120), "f34c1488385346a55709ba056ddd08280dd4c6d6"},
		{letters(128), "ad5b3fdbcb526778c2839d2f151ea753995e26a0"},
		{letters(1000000), "34aa973cd4c4daa4f61eeb2bdbad27316534016f"},
		{steppedText(1), "bf8b4530d8d246dd74ac53a13471bba17941dff7"},
		{steppedText(55), "04bb34aef4880b625e6b1564a014abd25fc02bfe"},
		{steppedText(56), "83b9fcb6d3e3b20f376ab989a1b6353bcc6c0f44"},
		{steppedText(63), "ab15090e8dbe512f3733350f9623ab11f9b5165b"},
		{steppedText(64), "54305ee7e4c7bc5a96afc6d1994fc52d9bcb665f"},
		{steppedText(65), "5985422a25357371ebd2a7f6ecd7eebed43db42c"},
		{steppedText(119), "6839d6c27f22ed884ac43ae6bd3bfcee9e04b938"},
		{steppedText(120), "8c40517a14ab8b78fd4b8958f4e31254a34c3fb0"},
		{steppedText(128), "22485dc0d1e1d6e9e93e4a2a4667b8e979456379"},
	} {
		if got := hex.EncodeToString([]byte(impl.Sha1(c.text))); got != c.want {
			t.Errorf("Sha1 of %.20q (%d bytes) is %s, not %s", c.text, len(c.text), got, c.want)
		}
	}
}

func TestDigestsOfEveryLength(t *testing.T) {
	text := mixedBytes(4100, 3)
	for n := range 700 {
		checkDigest(t, text[:n])
	}
	for _, n := range []int{3999, 4000, 4001, 4031, 4032, 4033, 4095, 4096, 4097} {
		checkDigest(t, text[:n])
	}
	for b := range 256 {
		checkDigest(t, string([]byte{byte(b)}))
		checkDigest(t, strings.Repeat(string([]byte{byte(b)}), 100))
	}
}

func checkDigest(t *testing.T, text string) {
	t.Helper()
	got := impl.Sha1(text)
	if got != librarySha1(text) || len(got) != impl.ShaSize {
		t.Errorf("Sha1 of %d bytes is %x, not %x", len(text), got, librarySha1(text))
	}
	if end := impl.ShaEnd(impl.ShaAdd(impl.ShaNew(), text)); end != got {
		t.Errorf("ShaEnd of %d bytes is %x, Sha1 is %x", len(text), end, got)
	}
}

func TestByteByByte(t *testing.T) {
	text := mixedBytes(400, 5)
	s := impl.ShaNew()
	for n := range len(text) {
		if !impl.ShaOk(s) || s.Size != n || s.Rest != text[n-n%64:n] {
			t.Fatalf("behind %d bytes there is %#v", n, s)
		}
		if !sameSha(s, impl.ShaAdd(impl.ShaNew(), text[:n])) {
			t.Fatalf("%d bytes at once are not %d bytes one by one", n, n)
		}
		if got := impl.ShaEnd(s); got != librarySha1(text[:n]) {
			t.Fatalf("the digest of %d bytes one by one is %x", n, got)
		}
		s = impl.ShaAdd(s, text[n:n+1])
	}
	if impl.ShaEnd(s) != impl.Sha1(text) {
		t.Error("the digest of all one by one is another")
	}
}

func TestCutAtEachPlace(t *testing.T) {
	for _, n := range []int{0, 1, 55, 56, 63, 64, 65, 119, 120, 127, 128, 129, 192, 300} {
		text := mixedBytes(n, uint32(n))
		whole := impl.ShaAdd(impl.ShaNew(), text)
		for cut := 0; cut <= n; cut++ {
			s := impl.ShaAdd(impl.ShaAdd(impl.ShaNew(), text[:cut]), text[cut:])
			if !sameSha(s, whole) || impl.ShaEnd(s) != librarySha1(text) {
				t.Errorf("%d bytes cut at %d become %#v, not %#v", n, cut, s, whole)
			}
		}
	}
}

func TestCutAtTwoPlaces(t *testing.T) {
	text := mixedBytes(140, 9)
	whole := impl.ShaAdd(impl.ShaNew(), text)
	for one := 0; one <= len(text); one++ {
		first := impl.ShaAdd(impl.ShaNew(), text[:one])
		for two := one; two <= len(text); two++ {
			s := impl.ShaAdd(impl.ShaAdd(first, text[one:two]), text[two:])
			if !sameSha(s, whole) {
				t.Fatalf("cut at %d and %d there is %#v", one, two, s)
			}
		}
	}
}

func TestPartsOfEachLength(t *testing.T) {
	text := mixedBytes(1000, 13)
	for size := 1; size <= 200; size++ {
		s := impl.ShaNew()
		for part := range slices.Chunk([]byte(text), size) {
			s = impl.ShaAdd(s, string(part))
			s = impl.ShaAdd(s, "")
		}
		if impl.ShaEnd(s) != librarySha1(text) {
			t.Errorf("parts of %d bytes have another digest", size)
		}
	}
}

func TestOneBeginningGoesOnInTwoWays(t *testing.T) {
	first := impl.ShaAdd(impl.ShaNew(), steppedText(100))
	left := impl.ShaAdd(first, mixedBytes(90, 1))
	right := impl.ShaAdd(first, mixedBytes(70, 2))
	if impl.ShaEnd(left) != librarySha1(steppedText(100)+mixedBytes(90, 1)) || impl.ShaEnd(right) != librarySha1(steppedText(100)+mixedBytes(70, 2)) {
		t.Error("one way changes the other")
	}
	if impl.ShaEnd(first) != librarySha1(steppedText(100)) || impl.ShaEnd(first) != librarySha1(steppedText(100)) {
		t.Error("an ending changes what it ends")
	}
}

// Any words may have come before, whatever the bytes were that led to them.
func TestAnyState(t *testing.T) {
	for i, h := range wordRows() {
		for _, size := range []int{0, 1, 55, 56, 63, 64, 119, 120, 1<<29 - 1, 1 << 29, 1 << 32, 1<<32 + 55, 1<<40 + 56, impl.MaxNum - 500, impl.MaxNum - 448} {
			s := impl.Sha{H: h, Rest: mixedBytes(size%64, uint32(i)), Size: size}
			if got, want := impl.ShaEnd(s), libraryEnd(t, s); got != want {
				t.Errorf("ShaEnd(%#v) is %x, not %x", s, got, want)
			}
			for _, n := range []int{0, 1, 8, 9, 63, 64, 65, 128, 200} {
				b := mixedBytes(n, uint32(n))
				if got, want := impl.ShaAdd(s, b), libraryAdd(t, s, b); !sameSha(got, want) {
					t.Errorf("ShaAdd(%#v, %d bytes) is %#v, not %#v", s, n, got, want)
				}
			}
		}
	}
}

func TestGreatestSize(t *testing.T) {
	for left := range 140 {
		size := impl.MaxNum - left
		s := impl.Sha{H: startWords(), Rest: mixedBytes(size%64, uint32(left)), Size: size}
		full := impl.ShaAdd(s, mixedBytes(left, 4))
		if !sameSha(full, libraryAdd(t, s, mixedBytes(left, 4))) || full.Size != impl.MaxNum || len(full.Rest) != 63 || !impl.ShaOk(full) {
			t.Errorf("%d bytes ahead of MaxNum become %#v", left, full)
		}
		if got := impl.ShaEnd(full); got != libraryEnd(t, full) || len(got) != 20 {
			t.Errorf("the digest of MaxNum bytes is %x", got)
		}
		if got := impl.ShaAdd(full, ""); !sameSha(got, full) {
			t.Errorf("nothing behind MaxNum bytes is %#v", got)
		}
		for _, more := range []int{1, 2, 64, 100} {
			if got := impl.ShaAdd(s, mixedBytes(left+more, 4)); !zeroSha(got) {
				t.Errorf("%d bytes more than MaxNum become %#v", more, got)
			}
		}
	}
}

// wrongShas are not ShaOk, each for one reason.
func wrongShas() []impl.Sha {
	var list []impl.Sha
	for _, h := range wrongRows() {
		list = append(list, impl.Sha{H: h}, impl.Sha{H: h, Rest: "abc", Size: 3}, impl.Sha{H: h, Rest: "abc", Size: 67})
	}
	for _, s := range []impl.Sha{
		{Rest: "a"}, {Size: 1}, {Rest: "ab", Size: 1}, {Rest: "a", Size: 2}, {Rest: "a", Size: 64}, {Rest: strings.Repeat("a", 64), Size: 64},
		{Rest: strings.Repeat("a", 65), Size: 65}, {Rest: strings.Repeat("a", 65), Size: 1}, {Rest: strings.Repeat("a", 64)}, {Rest: "", Size: 63},
		{Size: -1}, {Rest: "a", Size: -1}, {Size: -64}, {Rest: strings.Repeat("a", 63), Size: -1}, {Size: math.MinInt}, {Size: impl.MaxNum + 1},
		{Rest: "a", Size: impl.MaxNum + 2}, {Rest: strings.Repeat("a", 63), Size: math.MaxInt}, {Size: impl.MaxNum}, {Rest: strings.Repeat("a", 62), Size: impl.MaxNum},
	} {
		list = append(list, impl.Sha{H: startWords(), Rest: s.Rest, Size: s.Size})
	}
	return append(list, impl.Sha{})
}

func TestWrongShas(t *testing.T) {
	for _, s := range wrongShas() {
		if impl.ShaOk(s) {
			t.Errorf("%#v is ShaOk", s)
		}
		for _, b := range []string{"", "x", mixedBytes(63, 1), mixedBytes(64, 1), mixedBytes(200, 1)} {
			if got := impl.ShaAdd(s, b); !zeroSha(got) {
				t.Errorf("ShaAdd(%#v, %d bytes) is %#v", s, len(b), got)
			}
		}
		if got := impl.ShaEnd(s); got != "" {
			t.Errorf("ShaEnd(%#v) is %x", s, got)
		}
	}
}

// roomyWords are h with spare room behind them, and the whole of that memory.
func roomyWords(h []int) ([]int, []int) {
	memory := append(slices.Clone(h), 71, 72, 73, 74, 75)
	return memory[:len(h)], memory
}

func TestArgumentsStay(t *testing.T) {
	for _, h := range append(wordRows(), wrongRows()...) {
		given, memory := roomyWords(h)
		before := slices.Clone(memory)
		s := impl.Sha{H: given, Rest: steppedText(60), Size: 124}
		for _, b := range []string{"", "x", steppedText(4), steppedText(64), steppedText(300)} {
			impl.ShaAdd(s, b)
			impl.Compress(given, b)
		}
		impl.ShaOk(s)
		impl.ShaEnd(s)
		impl.ShaEnd(impl.Sha{H: given})
		if !slices.Equal(memory, before) {
			t.Errorf("the words %v, with the room behind them, became %v", before, memory)
		}
	}
}

func TestAnswersAreNewMemory(t *testing.T) {
	for _, b := range []string{"", "x", steppedText(64), steppedText(300)} {
		given, memory := roomyWords(startWords())
		before := slices.Clone(memory)
		s := impl.ShaAdd(impl.Sha{H: given}, b)
		again := impl.ShaAdd(impl.Sha{H: given}, b)
		for i := range s.H {
			s.H[i] = -7
		}
		s.H = append(s.H, -7)
		if !slices.Equal(memory, before) {
			t.Errorf("with %d bytes, writing into the answer changes the argument to %v", len(b), memory)
		}
		if !sameSha(again, libraryAdd(t, impl.Sha{H: startWords()}, b)) {
			t.Errorf("with %d bytes, writing into one answer changes another to %#v", len(b), again)
		}
		given[0] = -7
		if again.H[0] == -7 {
			t.Errorf("with %d bytes, writing into the argument changes the answer", len(b))
		}
	}
	block := wordBlocks()[7]
	one, two := impl.Schedule(block), impl.Schedule(block)
	one[0], one[79] = -7, -7
	if two[0] == -7 || two[79] == -7 {
		t.Error("two schedules share their words")
	}
	given := startWords()
	one, two = impl.Compress(given, block), impl.Compress(given, block)
	one[0] = -7
	if two[0] == -7 || given[0] == -7 {
		t.Error("what Compress answers is shared")
	}
}

func TestLabelsByHand(t *testing.T) {
	for _, c := range []struct{ text, want string }{
		{"", "sha1:3I42H3S6NNFQ2MSVX7XZKYAYSCX5QBYJ"},
		{"abc", "sha1:VGMT4NSHA2AWVOR6EVYXQUGCNSONBWE5"},
	} {
		if got := impl.Label(c.text); got != c.want {
			t.Errorf("Label(%q) is %q, not %q", c.text, got, c.want)
		}
	}
}

func TestDigestsComeBackFromLabels(t *testing.T) {
	text := mixedBytes(5000, 21)
	for _, n := range []int{0, 1, 2, 19, 20, 21, 55, 56, 63, 64, 65, 119, 120, 128, 500, 3999, 4000, 4001, 5000} {
		label := impl.Label(text[:n])
		if want := "sha1:" + base32.StdEncoding.EncodeToString([]byte(librarySha1(text[:n]))); label != want || len(label) != 37 {
			t.Errorf("Label of %d bytes is %q, not %q", n, label, want)
		}
		if got, ok := impl.ReadLabel(label); !ok || got != impl.Sha1(text[:n]) || len(got) != impl.ShaSize {
			t.Errorf("%q comes back as %x %v", label, got, ok)
		}
	}
	for i := range 500 {
		digest := mixedBytes(20, uint32(i))
		if got, ok := impl.ReadLabel("sha1:" + base32.StdEncoding.EncodeToString([]byte(digest))); !ok || got != digest {
			t.Errorf("%x comes back as %x %v", digest, got, ok)
		}
	}
	for letter, b := range map[string]string{"A": "\x00", "7": "\xff"} {
		if got, ok := impl.ReadLabel("sha1:" + strings.Repeat(letter, 32)); !ok || got != strings.Repeat(b, 20) {
			t.Errorf("32 times %s is %x %v", letter, got, ok)
		}
	}
}

func checkNoLabel(t *testing.T, s string) {
	t.Helper()
	if got, ok := impl.ReadLabel(s); ok || got != "" {
		t.Errorf("ReadLabel takes %q as %x", s, got)
	}
}

func TestReadLabelRefuses(t *testing.T) {
	letters := impl.Label("abc")[5:]
	for _, start := range []string{"", "sha1", "sha2:", "SHA1:", "Sha1:", "sha1;", "sha1: ", " sha1:", "sha256:", "md5:", "sha1::", "sha-1:", "ssha1:", "AAAAA", "sha1:A", "sha1=", "sha0:", "1sha:"} {
		checkNoLabel(t, start+letters)
	}
	for _, behind := range []string{
		"", letters[:1], letters[:31], letters[:30], letters[1:], letters + "A", letters + "=", letters + " ", letters + letters, letters[:24], letters + "AAAAAAAA",
		strings.ToLower(letters), strings.ToLower(letters[:1]) + letters[1:], letters[:30] + strings.ToLower(letters[30:]), letters[:31] + "=",
		letters[:16] + " " + letters[16:], letters[:31] + "\n", strings.Repeat("0", 32), strings.Repeat("1", 32), strings.Repeat("8", 32), strings.Repeat("\xff", 32),
		strings.Repeat("=", 32), "a9993e364706816aba3e25717850c26c9cd0d89d",
	} {
		checkNoLabel(t, "sha1:"+behind)
	}
	for n := range 37 {
		checkNoLabel(t, ("sha1:" + letters)[:n])
	}
	checkNoLabel(t, "sha1:"+strings.Repeat("A", impl.MaxLetters))
	checkNoLabel(t, letters+"sha1:")
}

func TestEachByteOfALabel(t *testing.T) {
	label := impl.Label("one")
	const alphabet = "ABCDEFGHIJKLMNOPQRSTUVWXYZ234567"
	for i := range len(label) {
		for b := range 256 {
			s := label[:i] + string([]byte{byte(b)}) + label[i+1:]
			is := s == label || i >= 5 && strings.IndexByte(alphabet, byte(b)) >= 0
			if !is {
				checkNoLabel(t, s)
				continue
			}
			want, err := base32.StdEncoding.DecodeString(s[5:])
			if got, ok := impl.ReadLabel(s); err != nil || !ok || got != string(want) {
				t.Errorf("ReadLabel(%q) is %x %v", s, got, ok)
			}
		}
	}
}
