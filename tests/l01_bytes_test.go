package tests

import (
	"encoding/base32"
	"fmt"
	"regexp"
	"slices"
	"strconv"
	"strings"
	"testing"

	"loop.example/g00651/impl"
)

// eachText calls f with every text of at most most bytes out of alphabet.
func eachText(alphabet string, most int, f func(string)) {
	var grow func(s string)
	grow = func(s string) {
		f(s)
		if len(s) == most {
			return
		}
		for i := 0; i < len(alphabet); i++ {
			grow(s + alphabet[i:i+1])
		}
	}
	grow("")
}

// everyByte is the text of all 256 bytes, in order.
func everyByte() string {
	b := make([]byte, 256)
	for i := range b {
		b[i] = byte(i)
	}
	return string(b)
}

// mixedBytes is a text of n bytes of all values.
func mixedBytes(n int, seed uint32) string {
	b := make([]byte, n)
	for i := range b {
		seed = seed*1664525 + 1013904223
		b[i] = byte(seed >> 24)
	}
	return string(b)
}

func TestConstantsOfBytes(t *testing.T) {
	if impl.MaxText != 4000 || impl.MaxLetters != 6400 || impl.MaxNum != 999999999999999 || impl.MaxHex != 268435455 {
		t.Error("a limit is not the document's")
	}
	if impl.LnOk != 0 || impl.LnShort != 1 || impl.LnBad != 2 {
		t.Error("a code is not the document's")
	}
}

func TestFoldChangesGreatLettersAlone(t *testing.T) {
	all := everyByte()
	got := impl.Fold(all)
	if len(got) != 256 {
		t.Fatalf("%d bytes came out of 256", len(got))
	}
	for i := 0; i < 256; i++ {
		want := byte(i)
		if strings.IndexByte("ABCDEFGHIJKLMNOPQRSTUVWXYZ", want) >= 0 {
			want += 32
		}
		if got[i] != want {
			t.Errorf("byte %d became %d", i, got[i])
		}
	}
	if impl.Fold("") != "" {
		t.Error("the empty text")
	}
	long := strings.Repeat("Q", impl.MaxText+1)
	if impl.Fold(long) != strings.Repeat("q", impl.MaxText+1) {
		t.Error("Fold has no limit")
	}
}

func TestSameFold(t *testing.T) {
	for _, c := range []struct {
		a, b string
		want bool
	}{
		{"", "", true}, {"Host", "hOST", true}, {"a", "ab", false}, {"ab", "a", false}, {"", "a", false},
		{"@", "`", false}, {"[", "{", false}, {"k", "\u212a", false}, {"s", "\u017f", false},
		{"\xc4", "\xe4", false}, {"\xff", "\xfe", false}, {"\x00A", "\x00a", true},
		{strings.Repeat("a", 5000), strings.Repeat("A", 5000), true},
	} {
		if got := impl.SameFold(c.a, c.b); got != c.want {
			t.Errorf("SameFold(%.20q, %.20q) is %v", c.a, c.b, got)
		}
	}
}

func TestTrim(t *testing.T) {
	oracle := regexp.MustCompile(`^[ \t]*((?s:.*?))[ \t]*$`)
	eachText("a \t\n", 6, func(s string) {
		if got, want := impl.Trim(s), oracle.FindStringSubmatch(s)[1]; got != want {
			t.Fatalf("Trim(%q) is %q, not %q", s, got, want)
		}
	})
	for i := 0; i < 256; i++ {
		s := string([]byte{byte(i)})
		want := s
		if i == 9 || i == 32 {
			want = ""
		}
		if got := impl.Trim(" " + s + "\t"); got != want {
			t.Errorf("Trim around byte %d gives %q", i, got)
		}
	}
	long := strings.Repeat("x", impl.MaxText+1)
	if impl.Trim(" "+long) != long {
		t.Error("Trim has no limit")
	}
}

func TestTokenBytes(t *testing.T) {
	signs := "ABCDEFGHIJKLMNOPQRSTUVWXYZabcdefghijklmnopqrstuvwxyz0123456789!#$%&'*+-.^_|~`"
	for i := 0; i < 256; i++ {
		s := string([]byte{byte(i)})
		want := strings.Contains(signs, s)
		for _, text := range []string{s, "a" + s, s + "a", "a" + s + "a"} {
			if impl.Token(text) != want {
				t.Errorf("Token(%q) is %v", text, !want)
			}
		}
	}
}

func TestTokenLengths(t *testing.T) {
	if impl.Token("") {
		t.Error("the empty text is no token")
	}
	if !impl.Token(strings.Repeat("t", impl.MaxText)) {
		t.Error("MaxText bytes are refused")
	}
	if impl.Token(strings.Repeat("t", impl.MaxText+1)) {
		t.Error("MaxText + 1 bytes are taken")
	}
}

func TestDecTextAndBack(t *testing.T) {
	numbers := []int{impl.MaxNum, impl.MaxNum - 1}
	for i := 0; i < 2000; i++ {
		numbers = append(numbers, i)
	}
	for p := 1; p < impl.MaxNum; p *= 10 {
		numbers = append(numbers, p-1, p, p+1, p*9)
	}
	for _, n := range numbers {
		s := impl.DecText(n)
		if s != strconv.Itoa(n) {
			t.Errorf("DecText(%d) is %q", n, s)
		}
		if back, ok := impl.ReadDec(s); back != n || !ok {
			t.Errorf("ReadDec(%q) is %d, %v", s, back, ok)
		}
	}
	for _, n := range []int{-1, -5, impl.MaxNum + 1, impl.MaxNum * 10, 1<<63 - 1, -1 << 63} {
		if s := impl.DecText(n); s != "" {
			t.Errorf("DecText(%d) is %q", n, s)
		}
	}
}

func TestReadDecRefuses(t *testing.T) {
	for _, s := range []string{
		"", "00", "007", "01", "0000000000000000", "+1", "-1", "-0", "1 ", " 1", "1.0", "1e3", "0x1", "1_0", "a", "/", ":", "1\n", "1\x00",
		"\u0661", "1000000000000000", "9999999999999999", "9223372036854775808", "18446744073709551616", "18446744073709551617",
		strings.Repeat("9", 100), strings.Repeat("1", impl.MaxText+1), "0999999999999999",
	} {
		if n, ok := impl.ReadDec(s); n != 0 || ok {
			t.Errorf("ReadDec(%.30q) is %d, %v", s, n, ok)
		}
	}
}

func TestReadDecTakesJustWhatDecTextGives(t *testing.T) {
	eachText("019-", 6, func(s string) {
		n, ok := impl.ReadDec(s)
		want, err := strconv.Atoi(s)
		is := err == nil && want >= 0 && strconv.Itoa(want) == s
		if ok != is || ok && n != want || !ok && n != 0 {
			t.Fatalf("ReadDec(%q) is %d, %v", s, n, ok)
		}
	})
}

func TestHexTextAndBack(t *testing.T) {
	numbers := []int{impl.MaxHex, impl.MaxHex - 1}
	for i := 0; i < 5000; i++ {
		numbers = append(numbers, i, i*53681)
	}
	for _, n := range numbers {
		s := impl.HexText(n)
		if s != fmt.Sprintf("%x", n) {
			t.Errorf("HexText(%d) is %q", n, s)
		}
		for _, form := range []string{s, strings.ToUpper(s), strings.Repeat("0", 7-len(s)) + s} {
			if back, ok := impl.ReadHex(form); back != n || !ok {
				t.Errorf("ReadHex(%q) is %d, %v", form, back, ok)
			}
		}
	}
	for _, n := range []int{-1, impl.MaxHex + 1, 1 << 32, 1<<63 - 1, -1 << 63} {
		if s := impl.HexText(n); s != "" {
			t.Errorf("HexText(%d) is %q", n, s)
		}
	}
}

func TestReadHexEdges(t *testing.T) {
	for s, want := range map[string]int{"0": 0, "0000000": 0, "fffffff": impl.MaxHex, "FFFFFFF": impl.MaxHex, "00000fF": 255, "aBcDeF": 0xabcdef} {
		if n, ok := impl.ReadHex(s); n != want || !ok {
			t.Errorf("ReadHex(%q) is %d, %v", s, n, ok)
		}
	}
	for _, s := range []string{"", "00000000", "10000000", "0fffffff", "12345678", "g", "G", "0x1", "-1", "+1", " 1", "1 ", "1_1", "1\r", strings.Repeat("f", 100)} {
		if n, ok := impl.ReadHex(s); n != 0 || ok {
			t.Errorf("ReadHex(%.30q) is %d, %v", s, n, ok)
		}
	}
	for i := 0; i < 256; i++ {
		s := string([]byte{byte(i)})
		at := strings.Index("0123456789abcdef", strings.ToLower(s))
		if n, ok := impl.ReadHex(s); ok != (at >= 0) || ok && n != at {
			t.Errorf("ReadHex(%q) is %d, %v", s, n, ok)
		}
	}
}

func TestBase32AndBack(t *testing.T) {
	oracle := base32.StdEncoding.WithPadding(base32.NoPadding)
	texts := []string{"", "f", "fo", "foo", "foob", "fooba", "foobar", everyByte(), strings.Repeat("\xff", impl.MaxText), strings.Repeat("\x00", impl.MaxText)}
	for n := 0; n <= 40; n++ {
		texts = append(texts, mixedBytes(n, uint32(n)), strings.Repeat("\x00", n), strings.Repeat("\xff", n))
	}
	for n := impl.MaxText - 10; n <= impl.MaxText; n++ {
		texts = append(texts, mixedBytes(n, uint32(n)))
	}
	for i := 0; i < 256; i++ {
		texts = append(texts, string([]byte{byte(i)}), string([]byte{0, byte(i)}))
	}
	for _, s := range texts {
		letters := impl.Base32(s)
		if letters != oracle.EncodeToString([]byte(s)) {
			t.Errorf("Base32(%.20q) is %.20q", s, letters)
		}
		if back, ok := impl.ReadBase32(letters); back != s || !ok {
			t.Errorf("ReadBase32(%.20q) is %.20q, %v", letters, back, ok)
		}
	}
}

func TestBase32Limits(t *testing.T) {
	if n := len(impl.Base32(strings.Repeat("x", impl.MaxText))); n != impl.MaxLetters {
		t.Errorf("MaxText bytes give %d letters", n)
	}
	if s := impl.Base32(strings.Repeat("x", impl.MaxText+1)); s != "" {
		t.Errorf("MaxText + 1 bytes give %d letters", len(s))
	}
	if s, ok := impl.ReadBase32(strings.Repeat("A", impl.MaxLetters)); s != strings.Repeat("\x00", impl.MaxText) || !ok {
		t.Errorf("MaxLetters letters give %d bytes, %v", len(s), ok)
	}
	for more := 1; more <= 8; more++ {
		if s, ok := impl.ReadBase32(strings.Repeat("A", impl.MaxLetters+more)); s != "" || ok {
			t.Errorf("MaxLetters + %d letters give %d bytes, %v", more, len(s), ok)
		}
	}
}

func TestReadBase32Refuses(t *testing.T) {
	for _, s := range []string{
		"my", "mY", "My", "MY======", "M", "MZ", "MB", "MFR", "MFRB", "MFRAAA", "AAAAAA", "AAAAAAAAA", "AAAAB", "AAAAAAB",
		"M1", "M8", "M0", "M9", "M@", "M[", " MY", "MY ", "MY\n", "M-", "M\xc0",
	} {
		if got, ok := impl.ReadBase32(s); got != "" || ok {
			t.Errorf("ReadBase32(%q) is %q, %v", s, got, ok)
		}
	}
	for i := 0; i < 256; i++ {
		s := string([]byte{byte(i)})
		if _, ok := impl.ReadBase32(s + "AAAAAAA"); ok != strings.Contains("ABCDEFGHIJKLMNOPQRSTUVWXYZ234567", s) {
			t.Errorf("ReadBase32 of byte %d is %v", i, ok)
		}
	}
}

func TestReadBase32TakesJustWhatBase32Gives(t *testing.T) {
	eachText("AQEIBZ7", 6, func(s string) {
		got, ok := impl.ReadBase32(s)
		raw, _ := base32.StdEncoding.WithPadding(base32.NoPadding).DecodeString(s)
		is := base32.StdEncoding.WithPadding(base32.NoPadding).EncodeToString(raw) == s
		if ok != is || ok && got != string(raw) || !ok && got != "" {
			t.Fatalf("ReadBase32(%q) is %q, %v", s, got, ok)
		}
	})
}

func TestElements(t *testing.T) {
	for _, c := range []struct {
		s    string
		want []string
	}{
		{"", nil}, {",", nil}, {" \t", nil}, {" , ,\t,", nil},
		{"a", []string{"a"}}, {"a,b", []string{"a", "b"}}, {",a,,b,", []string{"a", "b"}}, {" a b , c\t", []string{"a b", "c"}},
		{`"a,b",c`, []string{`"a,b"`, "c"}}, {`c,"a,b"`, []string{"c", `"a,b"`}},
		{`"`, []string{`"`}}, {`",`, []string{`",`}}, {`a,"b,c`, []string{"a", `"b,c`}}, {`a,"b, `, []string{"a", `"b,`}},
		{`,"`, []string{`"`}}, {`"",`, []string{`""`}}, {`"" "a,b" , c`, []string{`"" "a,b"`, "c"}},
		{`"\",",b`, []string{`"\","`, "b"}}, {`"\\",b`, []string{`"\\"`, "b"}}, {`"\\\",b`, []string{`"\\\",b`}},
		{`"a\`, []string{`"a\`}}, {`"a\"`, []string{`"a\"`}}, {`"a\\`, []string{`"a\\`}}, {`"\,",b`, []string{`"\,"`, "b"}},
		{`\,a`, []string{`\`, "a"}}, {`\"a,b",c`, []string{`\"a,b"`, "c"}}, {`a\`, []string{`a\`}}, {`\\,\`, []string{`\\`, `\`}},
		{`'a,b'`, []string{`'a`, `b'`}}, {"a\n,\rb", []string{"a\n", "\rb"}}, {"\xff,\x00", []string{"\xff", "\x00"}},
	} {
		if got := impl.Elements(c.s); !slices.Equal(got, c.want) {
			t.Errorf("Elements(%q) is %q, not %q", c.s, got, c.want)
		}
	}
}

// The pieces by a pattern: bytes outside quotes, and quotes that end or go on to the end.
func TestElementsOfEachShortText(t *testing.T) {
	piece := regexp.MustCompile(`^(?:[^",]|"(?:[^"\\]|\\.)*(?:"|\\?$))*`)
	eachText("a,\"\\ \t", 7, func(s string) {
		var want []string
		for rest := s; ; {
			p := piece.FindString(rest)
			if cut := strings.Trim(p, " \t"); cut != "" {
				want = append(want, cut)
			}
			if len(p) == len(rest) {
				break
			}
			rest = rest[len(p)+1:]
		}
		if got := impl.Elements(s); !slices.Equal(got, want) {
			t.Fatalf("Elements(%q) is %q, not %q", s, got, want)
		}
	})
}

func TestElementsComeBack(t *testing.T) {
	var quoted []string
	eachText("a,\"\\", 4, func(s string) {
		q, ok := impl.Quote(s)
		if !ok {
			t.Fatalf("Quote(%q) is refused", s)
		}
		quoted = append(quoted, q)
	})
	for i := range quoted {
		list := []string{quoted[i], "x", "k=" + quoted[(i*7+3)%len(quoted)], quoted[(i*11+5)%len(quoted)]}
		for _, gap := range []string{",", ", ", " ,\t", ",,", " , ,"} {
			if got := impl.Elements(strings.Join(list, gap)); !slices.Equal(got, list) {
				t.Fatalf("%q came back as %q", list, got)
			}
		}
	}
}

func TestElementsLimit(t *testing.T) {
	most := strings.Repeat("a,", impl.MaxText/2)
	if got := impl.Elements(most); len(got) != impl.MaxText/2 {
		t.Errorf("MaxText bytes give %d elements", len(got))
	}
	if got := impl.Elements(most + "a"); len(got) != 0 {
		t.Errorf("MaxText + 1 bytes give %d elements", len(got))
	}
	open := `"` + strings.Repeat(",", impl.MaxText-1)
	if got := impl.Elements(open); len(got) != 1 || got[0] != open {
		t.Error("quotes that do not end, of MaxText bytes")
	}
	if got := impl.Elements(strings.Repeat(" ", impl.MaxText+1)); len(got) != 0 {
		t.Error("MaxText + 1 blanks")
	}
}

func TestElementsAreNewEachTime(t *testing.T) {
	a := impl.Elements("x,y,z")
	a[0] = "changed"
	a = append(a, "more")
	if b := impl.Elements("x,y,z"); !slices.Equal(b, []string{"x", "y", "z"}) {
		t.Errorf("a changed list %q is seen in %q", a, b)
	}
}

func plain(i int) bool { return i == 9 || i >= 32 && i != 127 }

func TestQuoteEachByte(t *testing.T) {
	for i := 0; i < 256; i++ {
		s := string([]byte{byte(i)})
		want := `"` + s + `"`
		if i == '"' || i == '\\' {
			want = `"\` + s + `"`
		}
		if !plain(i) {
			want = ""
		}
		if got, ok := impl.Quote(s); got != want || ok != plain(i) {
			t.Errorf("Quote(%q) is %q, %v", s, got, ok)
		}
		if got, ok := impl.Quote("a" + s + "b"); ok != plain(i) || !ok && got != "" {
			t.Errorf("Quote of byte %d in the middle is %q, %v", i, got, ok)
		}
	}
}

func TestUnquoteEachByte(t *testing.T) {
	for i := 0; i < 256; i++ {
		s := string([]byte{byte(i)})
		if got, ok := impl.Unquote(`"\` + s + `"`); ok != plain(i) || ok && got != s || !ok && got != "" {
			t.Errorf("Unquote of a backslash and byte %d is %q, %v", i, got, ok)
		}
		bare := plain(i) && i != '"' && i != '\\'
		if got, ok := impl.Unquote(`"` + s + `"`); ok != bare || ok && got != s || !ok && got != "" {
			t.Errorf("Unquote of byte %d is %q, %v", i, got, ok)
		}
	}
}

func TestUnquote(t *testing.T) {
	for s, want := range map[string]string{`""`: "", `"a"`: "a", `"\a\b"`: "ab", `"\\"`: `\`, `"\""`: `"`, `"\\\""`: `\"`, "\"\t \xff\"": "\t \xff", `","`: ","} {
		if got, ok := impl.Unquote(s); got != want || !ok {
			t.Errorf("Unquote(%q) is %q, %v", s, got, ok)
		}
	}
	for _, s := range []string{"", `"`, "a", "ab", `"a`, `a"`, `"\"`, `"a\"`, `"\\\"`, `"a"b"`, `"""`, `""a`, `a""`, ` ""`, `"" `, `'a'`, "\"a\n\"", "\"\\\n\"", "\"\x7f\"", "\"\\\x00\""} {
		if got, ok := impl.Unquote(s); got != "" || ok {
			t.Errorf("Unquote(%q) is %q, %v", s, got, ok)
		}
	}
}

func TestUnquoteOfEachShortText(t *testing.T) {
	whole := regexp.MustCompile(`^"((?:[^"\\\n]|\\[^\n])*)"$`)
	behind := regexp.MustCompile(`\\(.)`)
	eachText("a\"\\\n,", 7, func(s string) {
		m := whole.FindStringSubmatch(s)
		want := ""
		if m != nil {
			want = behind.ReplaceAllString(m[1], "$1")
		}
		if got, ok := impl.Unquote(s); ok != (m != nil) || got != want {
			t.Fatalf("Unquote(%q) is %q, %v", s, got, ok)
		}
	})
}

func TestQuotedTextsComeBack(t *testing.T) {
	eachText("a\"\\\t\x80", 6, func(s string) {
		q, ok := impl.Quote(s)
		if !ok {
			t.Fatalf("Quote(%q) is refused", s)
		}
		if back, ok := impl.Unquote(q); back != s || !ok {
			t.Fatalf("%q came back from %q as %q, %v", s, q, back, ok)
		}
		if l := impl.Elements(q); len(l) != 1 || l[0] != q {
			t.Fatalf("%q is cut into %q", q, l)
		}
	})
}

func TestQuoteLimits(t *testing.T) {
	for _, sign := range []string{"a", `"`, `\`} {
		most := strings.Repeat(sign, impl.MaxText)
		q, ok := impl.Quote(most)
		if back, is := impl.Unquote(q); !ok || !is || back != most {
			t.Errorf("MaxText times %q does not come back", sign)
		}
		if got, ok := impl.Quote(most + sign); got != "" || ok {
			t.Errorf("Quote takes MaxText + 1 times %q", sign)
		}
		long := q[:len(q)-1] + `\` + sign + `"`
		if got, ok := impl.Unquote(long); got != "" || ok {
			t.Errorf("Unquote gives more than MaxText times %q", sign)
		}
	}
	if got, ok := impl.Unquote(`"` + strings.Repeat("a", impl.MaxText+1) + `"`); got != "" || ok {
		t.Error("Unquote gives MaxText + 1 bytes")
	}
}

func TestCurOk(t *testing.T) {
	for _, c := range []struct {
		cur  impl.Cur
		want bool
	}{
		{impl.Cur{}, true}, {impl.Cur{At: 1}, false}, {impl.Cur{At: -1}, false},
		{impl.Cur{Text: "abc"}, true}, {impl.Cur{Text: "abc", At: 3}, true}, {impl.Cur{Text: "abc", At: 4}, false}, {impl.Cur{Text: "abc", At: -1}, false},
		{impl.Cur{Text: "abc", At: 1<<63 - 1}, false}, {impl.Cur{Text: "abc", At: -1 << 63}, false},
	} {
		if impl.CurOk(c.cur) != c.want {
			t.Errorf("CurOk(%v) is %v", c.cur, !c.want)
		}
	}
}

func TestTakeLine(t *testing.T) {
	for _, c := range []struct {
		text string
		at   int
		line string
		to   int
		code int
	}{
		{"ab\r\ncd", 0, "ab", 4, impl.LnOk}, {"ab\r\ncd", 1, "b", 4, impl.LnOk}, {"ab\r\ncd", 2, "", 4, impl.LnOk}, {"\r\n", 0, "", 2, impl.LnOk},
		{"a\r\nb\r\n", 3, "b", 6, impl.LnOk}, {"\x00\xff\t\r\n", 0, "\x00\xff\t", 5, impl.LnOk}, {"a\r\n\n", 0, "a", 3, impl.LnOk},
		{"", 0, "", 0, impl.LnShort}, {"ab", 0, "", 0, impl.LnShort}, {"ab", 2, "", 0, impl.LnShort}, {"ab\r", 0, "", 0, impl.LnShort}, {"\r", 0, "", 0, impl.LnShort}, {"a\r\n", 3, "", 0, impl.LnShort},
		{"ab\r\ncd", 3, "", 0, impl.LnBad}, {"a\n", 0, "", 0, impl.LnBad}, {"\n", 0, "", 0, impl.LnBad}, {"a\rb\r\n", 0, "", 0, impl.LnBad}, {"a\r\r\n", 0, "", 0, impl.LnBad}, {"a\nb\r\n", 0, "", 0, impl.LnBad}, {"\r\r", 0, "", 0, impl.LnBad},
		{"a\r\n", 4, "", 0, impl.LnBad}, {"a\r\n", -1, "", 0, impl.LnBad}, {"", 1, "", 0, impl.LnBad}, {"a\r\n", 1<<63 - 1, "", 0, impl.LnBad}, {"a\r\n", -1 << 63, "", 0, impl.LnBad},
	} {
		want := impl.Cur{}
		if c.code == impl.LnOk {
			want = impl.Cur{Text: c.text, At: c.to}
		}
		line, cur, code := impl.TakeLine(impl.Cur{Text: c.text, At: c.at})
		if line != c.line || cur != want || code != c.code {
			t.Errorf("TakeLine(%q from %d) is %q, %v, %d", c.text, c.at, line, cur, code)
		}
	}
}

func TestTakeLineOfEachShortText(t *testing.T) {
	eachText("a\r\n", 6, func(s string) {
		for at := 0; at <= len(s); at++ {
			line, cur, code := impl.TakeLine(impl.Cur{Text: s, At: at})
			want, wantCur, wantCode := "", impl.Cur{}, impl.LnBad
			run := strings.IndexAny(s[at:], "\r\n")
			if run < 0 || s[at+run:] == "\r" {
				wantCode = impl.LnShort
			} else if strings.HasPrefix(s[at+run:], "\r\n") {
				want, wantCur, wantCode = s[at:at+run], impl.Cur{Text: s, At: at + run + 2}, impl.LnOk
			}
			if line != want || cur != wantCur || code != wantCode {
				t.Fatalf("TakeLine(%q from %d) is %q, %v, %d", s, at, line, cur, code)
			}
		}
	})
}

func TestLinesComeBack(t *testing.T) {
	lines := []string{"", "a", "", everyByteBut("\r\n"), strings.Repeat("x", 5000), " ", ""}
	c := impl.Cur{Text: strings.Join(lines, "\r\n") + "\r\n"}
	for _, want := range lines {
		line, next, code := impl.TakeLine(c)
		if line != want || code != impl.LnOk {
			t.Fatalf("%.20q came back as %.20q, %d", want, line, code)
		}
		c = next
	}
	if _, _, code := impl.TakeLine(c); c.At != len(c.Text) || code != impl.LnShort {
		t.Errorf("behind the last line: at %d of %d, code %d", c.At, len(c.Text), code)
	}
}

func everyByteBut(out string) string {
	var b []byte
	for i := 0; i < 256; i++ {
		if strings.IndexByte(out, byte(i)) < 0 {
			b = append(b, byte(i))
		}
	}
	return string(b)
}

func TestTakeN(t *testing.T) {
	text := "ab\r\ncd"
	for at := -2; at <= len(text)+2; at++ {
		for _, n := range []int{-1 << 63, -1, 0, 1, 2, 3, 4, 5, 6, 7, 8, 1<<63 - 1} {
			got, cur, ok := impl.TakeN(impl.Cur{Text: text, At: at}, n)
			want, wantCur := "", impl.Cur{}
			is := at >= 0 && at <= len(text) && n >= 0 && n <= len(text)-at
			if is {
				want, wantCur = text[at:at+n], impl.Cur{Text: text, At: at + n}
			}
			if got != want || cur != wantCur || ok != is {
				t.Errorf("TakeN(%d from %d) is %q, %v, %v", n, at, got, cur, ok)
			}
		}
	}
}

func TestPartsComeBack(t *testing.T) {
	text := mixedBytes(1000, 7)
	for _, size := range []int{1, 3, 64, 999, 1000} {
		c, all := impl.Cur{Text: text}, ""
		for c.At+size <= len(text) {
			part, next, ok := impl.TakeN(c, size)
			if !ok || len(part) != size {
				t.Fatalf("%d bytes at %d are refused", size, c.At)
			}
			all, c = all+part, next
		}
		if all != text[:len(text)/size*size] {
			t.Errorf("parts of %d bytes do not make up the text", size)
		}
		if _, _, ok := impl.TakeN(c, size); ok {
			t.Errorf("%d bytes are given where fewer are left", size)
		}
	}
	if s, c, ok := impl.TakeN(impl.Cur{}, 0); s != "" || c != (impl.Cur{}) || !ok {
		t.Error("no bytes of the empty text")
	}
}
