package tests

import (
	"encoding/base32"
	"fmt"
	"math"
	"regexp"
	"slices"
	"strconv"
	"strings"
	"testing"
	"time"

	"loop.example/g00651/impl"
)

const (
	someUrl   = "http://www.b.example:8080/x?y"
	someHead  = "HTTP/1.1 200 OK\r\nContent-Length: 5\r\n\r\n"
	someAsk   = "GET http://www.b.example:8080/x?y HTTP/1.1\r\nHost: www.b.example:8080\r\n\r\n"
	someMark  = "side: client\r\ncommits: 4\r\n"
	someInfo  = "software: stillroom\r\nformat: WARC/1.1\r\n"
	someTime  = 1583251521
	otherKind = impl.RcMark + 1
)

func infoRec(id, at int, block string) impl.Rec {
	return impl.Rec{Kind: impl.RcInfo, Id: id, Time: at, Block: block}
}

func askRec(id, at int, url, block string) impl.Rec {
	return impl.Rec{Kind: impl.RcRequest, Id: id, Time: at, Url: url, Block: block}
}

// answerRec has the label of what stands behind its head.
func answerRec(id, at int, url, head, payload string) impl.Rec {
	return impl.Rec{Kind: impl.RcAnswer, Id: id, Time: at, Url: url, Label: labelModel(payload), Block: head + payload}
}

func revisitRec(id, at int, url string, refers int, payload, head string) impl.Rec {
	return impl.Rec{Kind: impl.RcRevisit, Id: id, Time: at, Url: url, Refers: refers, Label: labelModel(payload), Block: head}
}

func markRec(id, at int, url, block string) impl.Rec {
	return impl.Rec{Kind: impl.RcMark, Id: id, Time: at, Url: url, Block: block}
}

// oneOfEach is a record of each of the five kinds, in the order of their numbers.
func oneOfEach() []impl.Rec {
	return []impl.Rec{
		infoRec(0, someTime, someInfo), askRec(4, someTime, someUrl, someAsk), answerRec(5, someTime+1, someUrl, someHead, "hello"),
		revisitRec(8, someTime+2, someUrl, 5, "hello", someHead), markRec(6, someTime+1, someUrl, someMark),
	}
}

func with(r impl.Rec, change func(r *impl.Rec)) impl.Rec {
	change(&r)
	return r
}

// The rules told in another way: a table of kinds, patterns, and one format for all texts.

// headed: the block has a head; alone: nothing stands behind that; told: the label is that of what does.
type kindRule struct {
	name                string
	url, refers, label  bool
	headed, alone, told bool
	content             string
}

var kindRules = []kindRule{
	{name: "warcinfo", content: "application/warc-fields"},
	{name: "request", url: true, headed: true, content: "application/http"},
	{name: "response", url: true, label: true, headed: true, told: true, content: "application/http"},
	{name: "revisit", url: true, refers: true, label: true, headed: true, alone: true, content: "application/http"},
	{name: "metadata", url: true, content: "application/warc-fields"},
}

const tokenPattern = "([A-Za-z0-9!#$%&'*+.^_|~`-]+)"
const datePattern = `([0-9]{4}-[0-9]{2}-[0-9]{2}T[0-9]{2}:[0-9]{2}:[0-9]{2}Z)`
const idPattern = `<urn:stillroom:(0|[1-9][0-9]{0,5})>`
const labelPattern = `(sha1:[A-Z2-7]{32})`

var (
	labelForm    = regexp.MustCompile("^" + labelPattern + "$")
	idForm       = regexp.MustCompile("^" + idPattern + "$")
	warcDateForm = regexp.MustCompile("^" + datePattern + "$")
	tokenForm    = regexp.MustCompile("^" + tokenPattern + "$")
	looseForm    = regexp.MustCompile("^" + tokenPattern + `:[\t ]*([\t -~\x{80}-\x{ff}]*)$`)
	namedForm    = regexp.MustCompile(`^<.+>$`)
	recForm      = regexp.MustCompile(`^WARC/1\.1\r\nWARC-Type: ([a-z]+)\r\nWARC-Record-ID: ` + idPattern + `\r\nWARC-Date: ` + datePattern + `\r\n` +
		`(?:WARC-Target-URI: ([!-~]+)\r\n)?(?:WARC-Refers-To: ` + idPattern + `\r\nWARC-Profile: identical-payload-digest\r\n)?(?:WARC-Payload-Digest: ` + labelPattern + `\r\n)?` +
		`WARC-Block-Digest: ` + labelPattern + `\r\nContent-Type: (application/[a-z-]+)\r\nContent-Length: (0|[1-9][0-9]{0,3})\r\n\r\n`)
)

func labelModel(b string) string {
	return "sha1:" + base32.StdEncoding.EncodeToString([]byte(librarySha1(b)))
}

// headEndModel is where a head ends, or -1.
func headEndModel(b string) int {
	for end := 4; end <= len(b); end++ {
		if b[end-4:end] == "\r\n\r\n" {
			return end
		}
	}
	return -1
}

func ownUrl(s string) bool {
	u, ok := readUrlModel(s)
	return ok && urlTextModel(u) == s
}

func recModel(r impl.Rec) bool {
	if r.Kind < 0 || r.Kind >= len(kindRules) || r.Id < 0 || r.Id > 999999 || r.Time < 0 || r.Time > impl.MaxTime || len(r.Block) > 4000 {
		return false
	}
	rule, end := kindRules[r.Kind], headEndModel(r.Block)
	switch {
	case rule.url != (r.Url != "") || rule.url && !ownUrl(r.Url):
		return false
	case rule.refers != (r.Refers != 0) || rule.refers && (r.Refers < 0 || r.Refers >= r.Id):
		return false
	case rule.label != (r.Label != "") || rule.label && !labelForm.MatchString(r.Label):
		return false
	case rule.headed && end < 0 || rule.alone && end != len(r.Block) || rule.told && r.Label != labelModel(r.Block[end:]):
		return false
	}
	return true
}

func dateModel(t int) string {
	return time.Unix(int64(t), 0).UTC().Format("2006-01-02T15:04:05Z")
}

func readDateModel(s string) (int, bool) {
	d, err := time.Parse("2006-01-02T15:04:05Z", s)
	return int(d.Unix()), err == nil && warcDateForm.MatchString(s) && d.Unix() >= 0
}

// headTextModel is what stands ahead of the block, by the rules of the kind, whether the record is right or not.
func headTextModel(r impl.Rec) string {
	rule := kindRules[r.Kind]
	url, refers, label := "", "", ""
	if rule.url {
		url = fmt.Sprintf("WARC-Target-URI: %s\r\n", r.Url)
	}
	if rule.refers {
		refers = fmt.Sprintf("WARC-Refers-To: <urn:stillroom:%d>\r\nWARC-Profile: identical-payload-digest\r\n", r.Refers)
	}
	if rule.label {
		label = fmt.Sprintf("WARC-Payload-Digest: %s\r\n", r.Label)
	}
	return fmt.Sprintf("WARC/1.1\r\nWARC-Type: %s\r\nWARC-Record-ID: <urn:stillroom:%d>\r\nWARC-Date: %s\r\n%s%s%sWARC-Block-Digest: %s\r\nContent-Type: %s\r\nContent-Length: %d\r\n\r\n",
		rule.name, r.Id, dateModel(r.Time), url, refers, label, labelModel(r.Block), rule.content, len(r.Block))
}

func recTextModel(r impl.Rec) string {
	return headTextModel(r) + r.Block + "\r\n\r\n"
}

// readRecModel is the record at the beginning of s, how many bytes it has, and whether there is one.
func readRecModel(s string) (impl.Rec, int, bool) {
	m := recForm.FindStringSubmatch(s)
	if m == nil {
		return impl.Rec{}, 0, false
	}
	kind := slices.IndexFunc(kindRules, func(rule kindRule) bool { return rule.name == m[1] })
	at, dated := readDateModel(m[3])
	size, _ := strconv.Atoi(m[9])
	end := len(m[0]) + size
	if kind < 0 || !dated || len(s) < end+4 || s[end:end+4] != "\r\n\r\n" {
		return impl.Rec{}, 0, false
	}
	id, _ := strconv.Atoi(m[2])
	refers, _ := strconv.Atoi(m[5])
	r := impl.Rec{Kind: kind, Id: id, Time: at, Url: m[4], Refers: refers, Label: m[6], Block: s[len(m[0]):end]}
	if m[7] != labelModel(r.Block) || m[8] != kindRules[kind].content || (m[5] != "") != kindRules[kind].refers || !recModel(r) {
		return impl.Rec{}, 0, false
	}
	return r, end + 4, true
}

func readRecsModel(b string) ([]impl.Rec, bool) {
	var list []impl.Rec
	if len(b) > 60000 {
		return nil, false
	}
	for b != "" {
		r, size, ok := readRecModel(b)
		if !ok {
			return nil, false
		}
		list = append(list, r)
		b = b[size:]
	}
	return list, true
}

// looseModel is how many bytes the record has that a looser reader finds at the beginning of b, or -1.
func looseModel(b string) int {
	head, rest, found := strings.Cut(b, "\r\n\r\n")
	lines := strings.Split(head, "\r\n")
	if !found || lines[0] != "WARC/1.1" {
		return -1
	}
	values := map[string][]string{}
	for _, line := range lines[1:] {
		m := looseForm.FindStringSubmatch(latin(line))
		if m == nil || len(line) > 300 {
			return -1
		}
		name := strings.ToLower(m[1])
		values[name] = append(values[name], strings.TrimRight(m[2], " \t"))
	}
	for _, name := range []string{"warc-type", "warc-record-id", "warc-date", "content-length"} {
		if len(values[name]) != 1 {
			return -1
		}
	}
	size, err := strconv.Atoi(values["content-length"][0])
	_, dated := readDateModel(values["warc-date"][0])
	id := values["warc-record-id"][0]
	if err != nil || !lengthForm.MatchString(values["content-length"][0]) || !dated || !tokenForm.MatchString(values["warc-type"][0]) || !namedForm.MatchString(id) {
		return -1
	}
	if size > len(rest)-4 || rest[size:size+4] != "\r\n\r\n" {
		return -1
	}
	return len(head) + 4 + size + 4
}

func grammarModel(b string) int {
	count := 0
	if len(b) > 60000 {
		return -1
	}
	for b != "" {
		size := looseModel(b)
		if size < 0 {
			return -1
		}
		b = b[size:]
		count++
	}
	return count
}

// recShown is r for a report, cut where it is long.
func recShown(r impl.Rec) string {
	return fmt.Sprintf("kind %d id %d time %d url %.210q refers %d label %q block %.60q of %d", r.Kind, r.Id, r.Time, r.Url, r.Refers, r.Label, r.Block, len(r.Block))
}

func checkRec(t *testing.T, c impl.Cur, want impl.Rec, wantSize int, wantOk bool) {
	t.Helper()
	wantCur := impl.Cur{}
	if wantOk {
		wantCur = impl.Cur{Text: c.Text, At: c.At + wantSize}
	}
	got, behind, ok := impl.ReadRec(c)
	if got != want || behind != wantCur || ok != wantOk {
		t.Errorf("ReadRec(%.700q, %d) is %s, a cursor at %d and %v, not %s, %d and %v", c.Text, c.At, recShown(got), behind.At, ok, recShown(want), wantCur.At, wantOk)
	}
}

func checkNoRec(t *testing.T, c impl.Cur) {
	t.Helper()
	checkRec(t, c, impl.Rec{}, 0, false)
}

// checkBytes holds all readers against the rules, whatever b is.
func checkBytes(t *testing.T, b string) {
	t.Helper()
	want, size, ok := readRecModel(b)
	checkRec(t, impl.Cur{Text: b}, want, size, ok)
	checkRow(t, b)
}

// checkRow holds ReadRecs and Grammar against the rules, whatever b is.
func checkRow(t *testing.T, b string) {
	t.Helper()
	want, wantOk := readRecsModel(b)
	got, ok := impl.ReadRecs(b)
	if !slices.Equal(got, want) || ok != wantOk {
		t.Errorf("ReadRecs(%.700q) are %d records and %v, not %d and %v", b, len(got), ok, len(want), wantOk)
	}
	if got, want := impl.Grammar(b), grammarModel(b); got != want {
		t.Errorf("Grammar(%.700q) is %d, not %d", b, got, want)
	}
}

// checkRefused is for bytes that the strict reader refuses, and of which a looser one makes count.
func checkRefused(t *testing.T, b string, count int) {
	t.Helper()
	checkNoRec(t, impl.Cur{Text: b})
	if list, ok := impl.ReadRecs(b); ok || len(list) > 0 {
		t.Errorf("ReadRecs(%.700q) are %d records and %v", b, len(list), ok)
	}
	if got := impl.Grammar(b); got != count {
		t.Errorf("Grammar(%.700q) is %d, not %d", b, got, count)
	}
	checkBytes(t, b)
}

// checkRightRec asks for r back from its text, alone, behind other bytes and ahead of others.
func checkRightRec(t *testing.T, r impl.Rec) {
	t.Helper()
	text := recTextModel(r)
	if !impl.RecOk(r) {
		t.Errorf("%s is refused", recShown(r))
	}
	if got := impl.RecText(r); got != text {
		t.Errorf("RecText(%s) is %.700q, not %.700q", recShown(r), got, text)
	}
	for _, ahead := range []string{"", "x", "\r\n", text, text[:len(text)-1], "WARC/1.1\r\n"} {
		for _, behind := range []string{"", "x", "\r\n", "\r\n\r\n", text, text[:len(text)/2]} {
			checkRec(t, impl.Cur{Text: ahead + text + behind, At: len(ahead)}, r, len(text), true)
		}
	}
	for n := range 4 {
		row, want := strings.Repeat(text, n), slices.Repeat([]impl.Rec{r}, n)
		if got, ok := impl.ReadRecs(row); !ok || !slices.Equal(got, want) {
			t.Errorf("%d times %s are %d records and %v", n, recShown(r), len(got), ok)
		}
		if got := impl.Grammar(row); got != n {
			t.Errorf("%d times %s are %d for a looser reader", n, recShown(r), got)
		}
	}
}

func checkWrongRec(t *testing.T, r impl.Rec) {
	t.Helper()
	if impl.RecOk(r) {
		t.Errorf("%s is ok", recShown(r))
	}
	if got := impl.RecText(r); got != "" {
		t.Errorf("RecText(%s) is %.700q", recShown(r), got)
	}
	// Its text, as it would be, is that of no record.
	if r.Kind >= 0 && r.Kind < len(kindRules) {
		if text := recTextModel(r); readsAs(text, r) {
			t.Errorf("%.700q is read as %s", text, recShown(r))
		}
	}
}

func readsAs(text string, r impl.Rec) bool {
	got, _, ok := impl.ReadRec(impl.Cur{Text: text})
	return ok && got == r
}

// checkAnyRec holds RecOk and RecText against the rules, whatever r is.
func checkAnyRec(t *testing.T, r impl.Rec) {
	t.Helper()
	if recModel(r) {
		checkRightRec(t, r)
		return
	}
	checkWrongRec(t, r)
}

func TestConstantsOfRecords(t *testing.T) {
	if impl.MaxId != 999999 || impl.MaxBlock != 4000 {
		t.Error("a limit is not the document's")
	}
	if impl.RcInfo != 0 || impl.RcRequest != 1 || impl.RcAnswer != 2 || impl.RcRevisit != 3 || impl.RcMark != 4 {
		t.Error("a kind is not the document's")
	}
}

func TestNamesOfKinds(t *testing.T) {
	for kind, want := range []string{"warcinfo", "request", "response", "revisit", "metadata"} {
		if got := impl.KindName(kind); got != want {
			t.Errorf("KindName(%d) is %q, not %q", kind, got, want)
		}
	}
	for _, kind := range []int{-1, -2, -5, otherKind, 6, 255, 256, 1 << 32, math.MaxInt, math.MinInt} {
		if got := impl.KindName(kind); got != "" {
			t.Errorf("KindName(%d) is %q", kind, got)
		}
	}
}

func TestIdsComeBack(t *testing.T) {
	for id := 0; id <= impl.MaxId; id += 1 + id/5000 {
		checkId(t, id)
	}
	for _, id := range []int{9, 10, 11, 12, 99, 100, 99999, 100000, impl.MaxId - 1, impl.MaxId} {
		checkId(t, id)
	}
}

func checkId(t *testing.T, id int) {
	t.Helper()
	want := fmt.Sprintf("<urn:stillroom:%d>", id)
	if got := impl.IdText(id); got != want {
		t.Errorf("IdText(%d) is %q, not %q", id, got, want)
	}
	if got, ok := impl.ReadId(want); !ok || got != id {
		t.Errorf("ReadId(%q) is %d %v", want, got, ok)
	}
}

func TestIdsOutsideTheirBounds(t *testing.T) {
	for _, id := range []int{-1, -2, -12, impl.MaxId + 1, impl.MaxId + 2, 9999999, 1 << 32, impl.MaxNum, impl.MaxNum + 1, math.MaxInt, math.MinInt} {
		if got := impl.IdText(id); got != "" {
			t.Errorf("IdText(%d) is %q", id, got)
		}
		checkNoId(t, fmt.Sprintf("<urn:stillroom:%d>", id))
	}
}

func checkNoId(t *testing.T, s string) {
	t.Helper()
	if got, ok := impl.ReadId(s); ok || got != 0 {
		t.Errorf("ReadId(%q) is %d %v", s, got, ok)
	}
}

func TestReadIdRefuses(t *testing.T) {
	for _, s := range []string{
		"", "0", "12", "<>", "<", ">", "<12>", "urn:stillroom:12", "<urn:stillroom:12", "urn:stillroom:12>", "12>", "<urn:stillroom:", "<urn:stillroom:>", "<urn:stillroom>", "<urn:stillroom12>",
		"<urn:stillroom:012>", "<urn:stillroom:00>", "<urn:stillroom:01>", "<urn:stillroom:000012>", "<urn:stillroom:+12>", "<urn:stillroom:-12>", "<urn:stillroom:-0>", "<urn:stillroom: 12>", "<urn:stillroom:12 >", "<urn:stillroom:1 2>", "<urn:stillroom:1_2>", "<urn:stillroom:0x12>", "<urn:stillroom:12.0>", "<urn:stillroom:1e2>", "<urn:stillroom:a>", "<urn:stillroom:12a>",
		"<URN:stillroom:12>", "<urn:Stillroom:12>", "<urn:STILLROOM:12>", "<urn:stilroom:12>", "<urn:stillroom;12>", "<uri:stillroom:12>", "<urn:stillroom::12>", "<urn:uuid:12>", "(urn:stillroom:12)", "{urn:stillroom:12}",
		" <urn:stillroom:12>", "<urn:stillroom:12> ", "<urn:stillroom:12>\r\n", "<urn:stillroom:12>\n", "<<urn:stillroom:12>", "<urn:stillroom:12>>", "<urn:stillroom:<urn:stillroom:12>", "<urn:stillroom:12><urn:stillroom:12>", "\"<urn:stillroom:12>\"",
		"<urn:stillroom:99999999999999999999>", "<urn:stillroom:18446744073709551628>", "<urn:stillroom:4294967308>", "<urn:stillroom:\xb2>", "<urn:stillroom:\u0661>", "<urn:stillroom:" + strings.Repeat("9", 1<<20) + ">",
	} {
		checkNoId(t, s)
	}
}

func TestChangedBytesOfIds(t *testing.T) {
	for _, text := range []string{"<urn:stillroom:12>", "<urn:stillroom:0>", "<urn:stillroom:999999>"} {
		eachChange(text, func(s string) {
			want, wantOk := 0, false
			if m := idForm.FindStringSubmatch(s); m != nil {
				want, _ = strconv.Atoi(m[1])
				wantOk = true
			}
			if got, ok := impl.ReadId(s); got != want || ok != wantOk {
				t.Errorf("ReadId(%q) is %d %v, not %d %v", s, got, ok, want, wantOk)
			}
		})
	}
}

func checkHeadPart(t *testing.T, b, wantHead, wantPayload string, wantOk bool) {
	t.Helper()
	if head, ok := impl.HeadPart(b); head != wantHead || ok != wantOk {
		t.Errorf("HeadPart(%.100q) is %.100q %v, not %.100q %v", b, head, ok, wantHead, wantOk)
	}
	if payload, ok := impl.Payload(b); payload != wantPayload || ok != wantOk {
		t.Errorf("Payload(%.100q) is %.100q %v, not %.100q %v", b, payload, ok, wantPayload, wantOk)
	}
}

func TestHeadPartByHand(t *testing.T) {
	for _, c := range []struct{ b, head, payload string }{
		{"\r\n\r\n", "\r\n\r\n", ""}, {"a\r\n\r\n", "a\r\n\r\n", ""}, {"\r\n\r\nb", "\r\n\r\n", "b"}, {"a\r\n\r\nb", "a\r\n\r\n", "b"}, {"a\r\nb\r\n\r\nc", "a\r\nb\r\n\r\n", "c"},
		{"a\r\n\r\nb\r\n\r\n", "a\r\n\r\n", "b\r\n\r\n"}, {"a\r\n\r\n\r\n\r\n", "a\r\n\r\n", "\r\n\r\n"}, {"\r\n\r\n\r\n", "\r\n\r\n", "\r\n"}, {"\r\n\r\n\r", "\r\n\r\n", "\r"}, {"\r\n\r\n\n", "\r\n\r\n", "\n"}, {"\r\n\r\n\r\n\r\n\r\n\r\n", "\r\n\r\n", "\r\n\r\n\r\n\r\n"},
		{"\r\r\n\r\n", "\r\r\n\r\n", ""}, {"\n\r\n\r\n", "\n\r\n\r\n", ""}, {"\r\n\n\r\n\r\nx", "\r\n\n\r\n\r\n", "x"}, {"\r\n\r\r\n\r\nx", "\r\n\r\r\n\r\n", "x"}, {"a\r\n\rb\r\n\r\nc", "a\r\n\rb\r\n\r\n", "c"}, {"\n\n\r\r\r\n\r\n\x00\xff", "\n\n\r\r\r\n\r\n", "\x00\xff"}, {someHead + "hello", someHead, "hello"},
	} {
		checkHeadPart(t, c.b, c.head, c.payload, true)
	}
	for _, b := range []string{
		"", "a", "\r", "\n", "\r\n", "\r\n\r", "\n\r\n", "\n\r\n\r", "\r\r", "\n\n", "\r\r\n\n", "\n\r\n\r\r\n", "\r\n\n", "\r\n \r\n", "\r\na\r\n", "\r\n\t\r\n", "a\r\nb", "a\r\nb\r\n", "a\n\nb", "a\r\rb", "a\n\r\n\rb", "\r\n\n\r\n\r", "\r\n\r\r\n", "\n\r\n\n\r\n", "\\r\\n\\r\\n", strings.Repeat("\r\na", 1<<16), strings.Repeat("\r", 1<<16), strings.Repeat("\n", 1<<16), strings.Repeat("\n\r\r\n", 1<<14),
	} {
		checkHeadPart(t, b, "", "", false)
	}
	long := strings.Repeat("x\r\n", 1<<16) + "\r\n"
	checkHeadPart(t, long, long, "", true)
	checkHeadPart(t, long+long, long, long, true)
}

func TestHeadPartOfEachShortText(t *testing.T) {
	eachText("\r\na", 9, func(b string) {
		end := headEndModel(b)
		if end < 0 {
			checkHeadPart(t, b, "", "", false)
			return
		}
		checkHeadPart(t, b, b[:end], b[end:], true)
	})
}

func TestTextsOfRecordsByHand(t *testing.T) {
	digests := map[string]string{"": "3I42H3S6NNFQ2MSVX7XZKYAYSCX5QBYJ", "abc": "VGMT4NSHA2AWVOR6EVYXQUGCNSONBWE5"}
	for b, letters := range digests {
		if labelModel(b) != "sha1:"+letters {
			t.Fatalf("the label of %q", b)
		}
	}
	empty, abc := "sha1:"+digests[""], "sha1:"+digests["abc"]
	for _, c := range []struct {
		r    impl.Rec
		text string
	}{
		{
			impl.Rec{Block: "abc"},
			"WARC/1.1\r\nWARC-Type: warcinfo\r\nWARC-Record-ID: <urn:stillroom:0>\r\nWARC-Date: 1970-01-01T00:00:00Z\r\nWARC-Block-Digest: " + abc + "\r\nContent-Type: application/warc-fields\r\nContent-Length: 3\r\n\r\nabc\r\n\r\n",
		},
		{
			impl.Rec{Kind: impl.RcInfo, Id: 12, Time: someTime},
			"WARC/1.1\r\nWARC-Type: warcinfo\r\nWARC-Record-ID: <urn:stillroom:12>\r\nWARC-Date: 2020-03-03T16:05:21Z\r\nWARC-Block-Digest: " + empty + "\r\nContent-Type: application/warc-fields\r\nContent-Length: 0\r\n\r\n\r\n\r\n",
		},
		{
			impl.Rec{Kind: impl.RcRequest, Id: 1, Time: someTime, Url: "http://a.b/", Block: "\r\n\r\nabc"},
			"WARC/1.1\r\nWARC-Type: request\r\nWARC-Record-ID: <urn:stillroom:1>\r\nWARC-Date: 2020-03-03T16:05:21Z\r\nWARC-Target-URI: http://a.b/\r\nWARC-Block-Digest: " + labelModel("\r\n\r\nabc") + "\r\nContent-Type: application/http\r\nContent-Length: 7\r\n\r\n\r\n\r\nabc\r\n\r\n",
		},
		{
			impl.Rec{Kind: impl.RcAnswer, Id: 2, Time: someTime, Url: "http://a.b/", Label: abc, Block: "\r\n\r\nabc"},
			"WARC/1.1\r\nWARC-Type: response\r\nWARC-Record-ID: <urn:stillroom:2>\r\nWARC-Date: 2020-03-03T16:05:21Z\r\nWARC-Target-URI: http://a.b/\r\nWARC-Payload-Digest: " + abc + "\r\nWARC-Block-Digest: " + labelModel("\r\n\r\nabc") + "\r\nContent-Type: application/http\r\nContent-Length: 7\r\n\r\n\r\n\r\nabc\r\n\r\n",
		},
		{
			impl.Rec{Kind: impl.RcRevisit, Id: 5, Time: impl.MaxTime, Url: "http://a.b/?", Refers: 2, Label: abc, Block: "x\r\n\r\n"},
			"WARC/1.1\r\nWARC-Type: revisit\r\nWARC-Record-ID: <urn:stillroom:5>\r\nWARC-Date: 9999-12-31T23:59:59Z\r\nWARC-Target-URI: http://a.b/?\r\nWARC-Refers-To: <urn:stillroom:2>\r\nWARC-Profile: identical-payload-digest\r\nWARC-Payload-Digest: " + abc + "\r\nWARC-Block-Digest: " + labelModel("x\r\n\r\n") + "\r\nContent-Type: application/http\r\nContent-Length: 5\r\n\r\nx\r\n\r\n\r\n\r\n",
		},
		{
			impl.Rec{Kind: impl.RcMark, Id: impl.MaxId, Time: 1, Url: "http://a.b:81/x", Block: "abc"},
			"WARC/1.1\r\nWARC-Type: metadata\r\nWARC-Record-ID: <urn:stillroom:999999>\r\nWARC-Date: 1970-01-01T00:00:01Z\r\nWARC-Target-URI: http://a.b:81/x\r\nWARC-Block-Digest: " + abc + "\r\nContent-Type: application/warc-fields\r\nContent-Length: 3\r\n\r\nabc\r\n\r\n",
		},
	} {
		if got := impl.RecText(c.r); got != c.text {
			t.Errorf("RecText(%s) is %q, not %q", recShown(c.r), got, c.text)
		}
		checkRec(t, impl.Cur{Text: c.text}, c.r, len(c.text), true)
		checkRightRec(t, c.r)
	}
}

// blocksWithHeads are blocks that have a head; those of them that end with it come first.
func blocksWithHeads() (ended, others []string) {
	filled := "HTTP/1.1 200 OK\r\n" + strings.Repeat("a: b\r\n", 600) + "\r\n"
	ended = []string{"\r\n\r\n", "\r\r\n\r\n", "x\r\n\r\n", someHead, someAsk, filled, strings.Repeat("\n", 3996) + "\r\n\r\n"}
	for _, payload := range []string{"x", "hello", "\r", "\n", "\r\n", "\r\n\r\n", "a\r\n\r\nb\r\n\r\n", "WARC/1.1\r\n", everyByte(), recTextModel(infoRec(1, 2, "x"))} {
		others = append(others, "\r\n\r\n"+payload, someHead+payload)
	}
	return ended, append(others, "\r\n\r\n"+strings.Repeat("p", 3996), someHead+mixedBytes(4000-len(someHead), 8))
}

func blocksWithoutHeads() []string {
	return []string{"", "x", "\r", "\n", "\r\n", "\r\n\r", "\n\r\n", "\r\n\n", "\n\n", "\r\n \r\n", "HTTP/1.1 200 OK\r\n", "a\r\nb", someMark, someInfo, "WARC/1.1\r\n", strings.Repeat("\r\nx", 1333), strings.Repeat("b", 4000), "\xff\x00\xfe"}
}

// ownUrls are addresses that are their own Canon.
func ownUrls() []string {
	var list []string
	for _, u := range rightUrls() {
		list = append(list, urlTextModel(u))
	}
	return list
}

// otherUrls are texts that are not their own Canon: other forms of addresses, and no addresses.
func otherUrls() []string {
	return []string{
		"", "HTTP://a.b/", "http://A.b/", "http://a.b", "http://a.b?x", "http://a.b:80/", "http://a.b/.", "http://a.b/x/../y", "http://a.b/%41", "http://a.b/%2f", "http://a.b:081/", "http://a.b:80", "http://a.b/%4%31",
		" http://a.b/", "http://a.b/ ", "a.b", "b,a)/", "/", "/x", "https://a.b/", "http://", "http://a..b/", "http://a.b/#", "http://a.b/\r\n", "http://a.b/\r\nX: y", "http://a.b/\xff", "<http://a.b/>", "http://a.b/" + strings.Repeat("p", 190), "http://a.b/" + strings.Repeat("p", 1<<18),
	}
}

// recsOfBlock are the records of every kind that may have that block.
func recsOfBlock(block string, at int) []impl.Rec {
	list := []impl.Rec{infoRec(7, at, block), markRec(7, at, someUrl, block)}
	end := headEndModel(block)
	if end < 0 {
		return list
	}
	list = append(list, askRec(7, at, someUrl, block), answerRec(7, at, someUrl, block[:end], block[end:]))
	if end == len(block) {
		list = append(list, revisitRec(7, at, someUrl, 3, "some payload", block))
	}
	return list
}

func rightRecs() []impl.Rec {
	var list []impl.Rec
	ended, others := blocksWithHeads()
	for i, block := range slices.Concat(ended, others, blocksWithoutHeads()) {
		list = append(list, recsOfBlock(block, i)...)
	}
	for i, url := range ownUrls() {
		for _, r := range oneOfEach()[1:] {
			list = append(list, with(r, func(r *impl.Rec) { r.Url, r.Id, r.Time = url, i+10, someTime*i }))
		}
	}
	for _, at := range edgeTimes() {
		for _, r := range oneOfEach() {
			if at%5 == r.Kind {
				list = append(list, with(r, func(r *impl.Rec) { r.Time = at }))
			}
		}
	}
	return append(list, oneOfEach()...)
}

func TestRecordsComeBack(t *testing.T) {
	for _, r := range rightRecs() {
		if !recModel(r) {
			t.Errorf("the rules refuse %s", recShown(r))
		}
		checkRightRec(t, r)
	}
}

func TestTheZeroValueIsARecord(t *testing.T) {
	checkRightRec(t, impl.Rec{})
	for kind := 1; kind <= otherKind; kind++ {
		checkWrongRec(t, impl.Rec{Kind: kind})
	}
}

func TestKindsOutsideTheirBounds(t *testing.T) {
	for _, kind := range []int{impl.RcInfo - 1, impl.RcMark + 1, -2, 6, 255, 256, 257, 1 << 32, 1<<32 + 1, math.MaxInt, math.MinInt} {
		for _, r := range oneOfEach() {
			checkWrongRec(t, with(r, func(r *impl.Rec) { r.Kind = kind }))
		}
		checkWrongRec(t, impl.Rec{Kind: kind})
	}
}

// What is right for one kind is held against the rules of each other one.
func TestEachRecordAsEachKind(t *testing.T) {
	ended, others := blocksWithHeads()
	for _, block := range slices.Concat(ended, others, blocksWithoutHeads()) {
		for _, r := range recsOfBlock(block, 5) {
			for kind := -1; kind <= otherKind; kind++ {
				checkAnyRec(t, with(r, func(r *impl.Rec) { r.Kind = kind }))
			}
		}
	}
}

func TestIdsOfRecords(t *testing.T) {
	for _, r := range oneOfEach() {
		for _, id := range []int{0, 1, 2, 9, 10, 999998, impl.MaxId, -1, impl.MaxId + 1, 1000009, 1 << 32, math.MaxInt, math.MinInt} {
			r := with(r, func(r *impl.Rec) { r.Id = id })
			least := 0
			if r.Kind == impl.RcRevisit {
				r.Refers, least = 1, 2
			}
			if got, want := impl.RecOk(r), id >= least && id <= 999999; got != want {
				t.Errorf("%s is ok: %v", recShown(r), got)
			}
			checkAnyRec(t, r)
		}
	}
}

func TestTimesOfRecords(t *testing.T) {
	for _, r := range oneOfEach() {
		for _, at := range []int{0, 1, impl.MaxTime - 1, impl.MaxTime} {
			checkRightRec(t, with(r, func(r *impl.Rec) { r.Time = at }))
		}
		for _, at := range noTimes() {
			checkWrongRec(t, with(r, func(r *impl.Rec) { r.Time = at }))
		}
	}
}

func TestAddressesOfRecords(t *testing.T) {
	for _, r := range oneOfEach() {
		for _, url := range otherUrls() {
			if r.Kind != impl.RcInfo || url != "" {
				checkWrongRec(t, with(r, func(r *impl.Rec) { r.Url = url }))
			}
		}
		for _, url := range ownUrls() {
			r := with(r, func(r *impl.Rec) { r.Url = url })
			if got, want := impl.RecOk(r), r.Kind != impl.RcInfo; got != want {
				t.Errorf("%s is ok: %v", recShown(r), got)
			}
		}
	}
	longest := "http://a.b/" + strings.Repeat("p", impl.MaxTarget-len("http://a.b/"))
	for _, r := range oneOfEach()[1:] {
		checkRightRec(t, with(r, func(r *impl.Rec) { r.Url = longest }))
		checkWrongRec(t, with(r, func(r *impl.Rec) { r.Url = longest + "p" }))
	}
}

func TestHowLongABlockIs(t *testing.T) {
	head := "x\r\n\r\n"
	for _, n := range []int{0, 1, 4, 5, 6, 9, 10, 99, 100, 999, 1000, 3998, 3999, 4000, 4001, 4002, 9999, 10000, 65536, 1 << 20} {
		right := n <= 4000
		for _, r := range oneOfEach() {
			r.Block = strings.Repeat("b", n)
			if r.Kind != impl.RcInfo && r.Kind != impl.RcMark {
				if n < len(head) {
					continue
				}
				r.Block = head + r.Block[len(head):]
			}
			if r.Kind == impl.RcAnswer {
				r.Label = labelModel(r.Block[len(head):])
			}
			if r.Kind == impl.RcRevisit {
				r.Block = r.Block[len(head):] + head
			}
			if got := impl.RecOk(r); got != right || len(r.Block) != n {
				t.Errorf("a block of %d bytes in %s is ok: %v", n, recShown(r), got)
			}
			checkAnyRec(t, r)
		}
	}
}

func TestHeadsOfBlocks(t *testing.T) {
	for _, block := range blocksWithoutHeads() {
		for _, r := range oneOfEach() {
			r.Block = block
			if got, want := impl.RecOk(r), r.Kind == impl.RcInfo || r.Kind == impl.RcMark; got != want {
				t.Errorf("%s is ok: %v", recShown(r), got)
			}
			checkAnyRec(t, r)
			// The label of a payload that isn't there helps nothing.
			if r.Kind == impl.RcAnswer {
				r.Label = labelModel("")
				checkWrongRec(t, r)
				r.Label = labelModel(block)
				checkWrongRec(t, r)
			}
		}
	}
	ended, others := blocksWithHeads()
	for _, block := range slices.Concat(ended, others) {
		end := headEndModel(block)
		checkRightRec(t, askRec(3, 4, someUrl, block))
		checkRightRec(t, answerRec(3, 4, someUrl, block[:end], block[end:]))
		if got := impl.RecOk(revisitRec(3, 4, someUrl, 1, block[end:], block)); got != (end == len(block)) {
			t.Errorf("a revisit with the block %.100q is ok: %v", block, got)
		}
		checkAnyRec(t, revisitRec(3, 4, someUrl, 1, block[end:], block))
		checkAnyRec(t, revisitRec(3, 4, someUrl, 1, "", block))
		checkRightRec(t, revisitRec(3, 4, someUrl, 1, block[end:], block[:end]))
	}
}

func TestLabelsOfAnswers(t *testing.T) {
	for _, payload := range []string{"", "x", "hello", "\r\n\r\n", "a\r\n\r\nb", mixedBytes(3000, 4)} {
		r := answerRec(5, 6, someUrl, someHead, payload)
		checkRightRec(t, r)
		for _, label := range []string{
			"", labelModel(payload + "x"), labelModel(someHead + payload), labelModel(someHead), labelModel("y"), labelModel(payload + "\r\n\r\n"), strings.ToLower(labelModel(payload)), "SHA1:" + labelModel(payload)[5:], labelModel(payload)[5:], labelModel(payload)[:36], labelModel(payload) + "A", " " + labelModel(payload), labelModel(payload) + "\r\n", "sha1:" + strings.Repeat("A", 32),
		} {
			checkWrongRec(t, with(r, func(r *impl.Rec) { r.Label = label }))
		}
	}
}

func TestLabelsOfRevisits(t *testing.T) {
	r := revisitRec(5, 6, someUrl, 2, "hello", someHead)
	for _, label := range []string{labelModel(""), labelModel("x"), labelModel(someHead), "sha1:" + strings.Repeat("A", 32), "sha1:" + strings.Repeat("7", 32), "sha1:" + strings.Repeat("Z2", 16)} {
		checkRightRec(t, with(r, func(r *impl.Rec) { r.Label = label }))
	}
	for _, label := range []string{
		"", "sha1:", "sha1", "x", strings.Repeat("A", 32), strings.Repeat("A", 37), "sha1:" + strings.Repeat("A", 31), "sha1:" + strings.Repeat("A", 33), "sha1:" + strings.Repeat("a", 32), "sha1:" + strings.Repeat("1", 32), "sha1:" + strings.Repeat("8", 32), "sha1:" + strings.Repeat("A", 31) + "=", "sha2:" + strings.Repeat("A", 32), "SHA1:" + strings.Repeat("A", 32), "sha1: " + strings.Repeat("A", 31), " " + labelModel("x"), labelModel("x") + " ", labelModel("x") + "\r\n", labelModel("x") + labelModel("x"), strings.Repeat("A", 1<<18),
	} {
		checkWrongRec(t, with(r, func(r *impl.Rec) { r.Label = label }))
	}
}

func TestRefersOfRevisits(t *testing.T) {
	for _, id := range []int{0, 1, 2, 3, 10, 100, impl.MaxId - 1, impl.MaxId, impl.MaxId + 1, -1, -5, math.MaxInt, math.MinInt} {
		for _, refers := range []int{0, 1, 2, id - 2, id - 1, id, id + 1, -1, impl.MaxId, impl.MaxId + 1, math.MaxInt, math.MinInt} {
			r := revisitRec(id, 1, someUrl, refers, "x", someHead)
			right := id >= 0 && id <= 999999 && refers >= 1 && refers < id
			if got := impl.RecOk(r); got != right {
				t.Errorf("a revisit of number %d that refers to %d is ok: %v", id, refers, got)
			}
			checkAnyRec(t, r)
		}
	}
}

// A part that a kind has no place for makes it no record, and so does one that is missing.
func TestPartsThatAKindHasNoPlaceFor(t *testing.T) {
	for _, r := range oneOfEach() {
		rule := kindRules[r.Kind]
		for _, url := range []string{"", someUrl, "http://a/", "x"} {
			if (url != "") != rule.url || url == "x" {
				checkWrongRec(t, with(r, func(r *impl.Rec) { r.Url = url }))
			}
		}
		for _, refers := range []int{-1, 0, 1, 2, 3, r.Id, r.Id - 1, impl.MaxId, math.MinInt, math.MaxInt} {
			if rule.refers != (refers != 0) {
				checkWrongRec(t, with(r, func(r *impl.Rec) { r.Refers = refers }))
			}
		}
		for _, label := range []string{"", labelModel(""), labelModel("hello"), labelModel(r.Block), "x", "sha1:"} {
			if (label != "") != rule.label {
				checkWrongRec(t, with(r, func(r *impl.Rec) { r.Label = label }))
			}
		}
		checkRightRec(t, r)
	}
}

func TestNoBeginningOfARecordIsOne(t *testing.T) {
	for _, r := range slices.Concat(oneOfEach(), []impl.Rec{{}, markRec(1, 2, someUrl, "\r\n\r\n\r\n\r\n"), answerRec(1, 2, someUrl, someHead, recTextModel(infoRec(1, 2, "x")))}) {
		text := impl.RecText(r)
		for n := range len(text) {
			if n > 0 {
				checkRefused(t, text[:n], -1)
			}
			checkNoRec(t, impl.Cur{Text: text[:n]})
			checkNoRec(t, impl.Cur{Text: "x" + text[:n], At: 1})
			checkNoRec(t, impl.Cur{Text: text + text[:n], At: len(text)})
			if list, ok := impl.ReadRecs(text + text[:n]); ok != (n == 0) || len(list) != map[bool]int{true: 1}[ok] {
				t.Errorf("a record and %d bytes of another are %d records and %v", n, len(list), ok)
			}
			if got, want := impl.Grammar(text+text[:n]), map[bool]int{true: 1, false: -1}[n == 0]; got != want {
				t.Errorf("a record and %d bytes of another are %d for a looser reader", n, got)
			}
		}
	}
}

// The place where a record is looked for counts: no other place has one.
func TestWhereARecordIsLookedFor(t *testing.T) {
	text := ""
	places := map[int]impl.Rec{}
	for _, r := range oneOfEach() {
		text += "--"
		places[len(text)] = r
		text += recTextModel(r)
	}
	for at := -3; at < len(text)+4; at++ {
		r, is := places[at]
		c := impl.Cur{Text: text, At: at}
		if is {
			checkRec(t, c, r, len(recTextModel(r)), true)
			continue
		}
		checkNoRec(t, c)
	}
	for _, at := range []int{math.MaxInt, math.MinInt, 1 << 32, -1 << 32} {
		checkNoRec(t, impl.Cur{Text: text, At: at})
	}
	checkNoRec(t, impl.Cur{})
	checkNoRec(t, impl.Cur{At: 1})
}

// A cursor's text may be longer than MaxCap, and whatever stands ahead and behind.
func TestRecordsInLongTexts(t *testing.T) {
	for _, r := range oneOfEach() {
		text := recTextModel(r)
		for _, around := range []string{strings.Repeat("x", 1<<18), strings.Repeat("\r\n", 1<<18), strings.Repeat(text, 300), mixedBytes(1<<18, 3)} {
			checkRec(t, impl.Cur{Text: around + text + around, At: len(around)}, r, len(text), true)
			checkNoRec(t, impl.Cur{Text: around + text[:20] + around, At: len(around)})
		}
	}
}

func TestRowsOfRecords(t *testing.T) {
	kinds := oneOfEach()
	var grow func(row []impl.Rec, text string)
	grow = func(row []impl.Rec, text string) {
		got, ok := impl.ReadRecs(text)
		if !ok || !slices.Equal(got, row) || impl.Grammar(text) != len(row) {
			t.Errorf("a row of %d records is read as %d and %v, and counted as %d", len(row), len(got), ok, impl.Grammar(text))
		}
		for _, tail := range []string{"x", "\r", "\n", "\r\n", "\r\n\r\n", "\x00", "W", "WARC/1.1", "WARC/1.1\r\n", "WARC/1.1\r\n\r\n"} {
			if list, ok := impl.ReadRecs(text + tail); ok || list != nil {
				t.Errorf("%d records with %q behind them are read as %d", len(row), tail, len(list))
			}
			if got := impl.Grammar(text + tail); got != -1 {
				t.Errorf("%d records with %q behind them are counted as %d", len(row), tail, got)
			}
		}
		if len(row) == 4 {
			return
		}
		for _, r := range kinds {
			grow(append(slices.Clone(row), r), text+recTextModel(r))
		}
	}
	grow(nil, "")
}

// A row stands on its own in any order: neither numbers nor hours have to grow.
func TestRowsOfAllRightRecords(t *testing.T) {
	list := rightRecs()
	for len(list) > 0 {
		n, text := 0, ""
		for n < len(list) && len(text)+len(recTextModel(list[n])) <= 60000 {
			text += recTextModel(list[n])
			n++
		}
		checkRow(t, text)
		if got, ok := impl.ReadRecs(text); !ok || !slices.Equal(got, list[:n]) || impl.Grammar(text) != n {
			t.Errorf("a row of %d records is read as %d and %v, and counted as %d", n, len(got), ok, impl.Grammar(text))
		}
		// One byte that is gone or more, anywhere.
		for at := 0; at < len(text); at += 1 + len(text)/11 {
			checkRow(t, text[:at]+text[at+1:])
			checkRow(t, text[:at]+"\r"+text[at:])
		}
		list = list[n:]
	}
}

// sizedRec is an info record whose text has just n bytes; its length has four digits.
func sizedRec(t *testing.T, n int) impl.Rec {
	t.Helper()
	thousand := infoRec(1, 2, strings.Repeat("s", 1000))
	r := infoRec(1, 2, strings.Repeat("s", 1000+n-len(recTextModel(thousand))))
	if !recModel(r) || len(recTextModel(r)) != n {
		t.Fatalf("no record has %d bytes", n)
	}
	return r
}

func TestHowLongARowIs(t *testing.T) {
	for n := impl.MaxCap - 3; n <= impl.MaxCap+3; n++ {
		text, count := "", 0
		for ; n-len(text) > 4000+3000; count++ {
			text += recTextModel(sizedRec(t, 3000))
		}
		text += recTextModel(sizedRec(t, n-len(text)-2500)) + recTextModel(sizedRec(t, 2500))
		count += 2
		right := n <= 60000
		list, ok := impl.ReadRecs(text)
		if ok != right || len(text) != n || ok && len(list) != count {
			t.Errorf("a row of %d bytes is read as %d records and %v", len(text), len(list), ok)
		}
		if got := impl.Grammar(text); right && got != count || !right && got != -1 {
			t.Errorf("a row of %d bytes is counted as %d, not %d", len(text), got, count)
		}
		// A single record for the looser reader, whose block may be longer than MaxBlock.
		head := "WARC/1.1\r\nWARC-Type: x\r\nWARC-Record-ID: <x>\r\nWARC-Date: 1970-01-01T00:00:00Z\r\nContent-Length: "
		size := n - len(head) - 5 - 8
		single := head + strconv.Itoa(size) + "\r\n\r\n" + strings.Repeat("s", size) + "\r\n\r\n"
		if got := impl.Grammar(single); len(single) != n || right && got != 1 || !right && got != -1 {
			t.Errorf("a single record of %d bytes is counted as %d", len(single), got)
		}
	}
}

// cutText is the text of r: its first line, its other lines and what stands behind the empty one.
func cutText(r impl.Rec) (string, []string, string) {
	head, rest, _ := strings.Cut(recTextModel(r), "\r\n\r\n")
	lines := strings.Split(head, "\r\n")
	return lines[0], lines[1:], rest
}

func textOf(version string, lines []string, rest string) string {
	return strings.Join(append([]string{version}, lines...), "\r\n") + "\r\n\r\n" + rest
}

func needed(line string) bool {
	name, _, _ := strings.Cut(line, ":")
	return slices.Contains([]string{"WARC-Type", "WARC-Record-ID", "WARC-Date", "Content-Length"}, name)
}

func countIf(right bool) int {
	if right {
		return 1
	}
	return -1
}

func TestALineTooFew(t *testing.T) {
	for _, r := range oneOfEach() {
		version, lines, rest := cutText(r)
		for i, line := range lines {
			checkRefused(t, textOf(version, slices.Delete(slices.Clone(lines), i, i+1), rest), countIf(!needed(line)))
		}
		checkRefused(t, textOf(version, nil, rest), -1)
		checkRefused(t, strings.TrimPrefix(recTextModel(r), version+"\r\n"), -1)
	}
}

func TestALineTooMany(t *testing.T) {
	for _, r := range oneOfEach() {
		version, lines, rest := cutText(r)
		for _, line := range lines {
			for at := range len(lines) + 1 {
				checkRefused(t, textOf(version, slices.Insert(slices.Clone(lines), at, line), rest), countIf(!needed(line)))
			}
		}
		for at := range len(lines) + 1 {
			for _, line := range []string{"X-Y: z", "X:", "warc-concurrent-to: <urn:stillroom:1>", "WARC-Truncated: length", "a:b:c", "!#$%&'*+-.^_|~`:\t\xe4\xff"} {
				checkRefused(t, textOf(version, slices.Insert(slices.Clone(lines), at, line), rest), 1)
			}
			for _, line := range []string{"x", ":", ": x", " : x", "X Y: z", " X-Y: z", "X-Y : z", "\tz", "(x): y", "x\xe4: y", "X-Y: \x00", "X-Y: \x7f", "X-Y: a\x1fb", "X-Y: \n", "X-Y: \r", "X\r: z", "X\n: z", "WARC/1.1"} {
				checkRefused(t, textOf(version, slices.Insert(slices.Clone(lines), at, line), rest), -1)
			}
		}
	}
}

// The lines that a kind has no place for, with values that are right for another one.
func TestLinesOfOtherKinds(t *testing.T) {
	known := []string{"WARC-Target-URI: " + someUrl, "WARC-Refers-To: <urn:stillroom:3>", "WARC-Profile: identical-payload-digest", "WARC-Payload-Digest: " + labelModel("hello")}
	for _, r := range oneOfEach() {
		version, lines, rest := cutText(r)
		for set := range 16 {
			now := lines[:3:3]
			for i, line := range known {
				if set>>i&1 == 1 {
					now = append(now, line)
				}
			}
			now = append(now, lines[len(lines)-3:]...)
			text := textOf(version, now, rest)
			_, _, ok := impl.ReadRec(impl.Cur{Text: text})
			if want := slices.Equal(slices.Concat(lines[:3], keptOf(known, r.Kind), lines[len(lines)-3:]), now); ok != want {
				t.Errorf("%q is read: %v", text, ok)
			}
			if got := impl.Grammar(text); got != 1 {
				t.Errorf("Grammar(%q) is %d", text, got)
			}
			checkBytes(t, text)
		}
	}
}

func keptOf(known []string, kind int) []string {
	rule := kindRules[kind]
	var kept []string
	for i, has := range []bool{rule.url, rule.refers, rule.refers, rule.label} {
		if has {
			kept = append(kept, known[i])
		}
	}
	return kept
}

func TestLinesInOtherPlaces(t *testing.T) {
	for _, r := range oneOfEach() {
		version, lines, rest := cutText(r)
		for i := range lines {
			for j := range i {
				swapped := slices.Clone(lines)
				swapped[i], swapped[j] = swapped[j], swapped[i]
				checkRefused(t, textOf(version, swapped, rest), 1)
			}
		}
		turned := slices.Clone(lines)
		slices.Reverse(turned)
		checkRefused(t, textOf(version, turned, rest), 1)
		checkRefused(t, textOf(lines[0], append([]string{version}, lines[1:]...), rest), -1)
	}
}

func TestLinesInOtherLetters(t *testing.T) {
	for _, r := range oneOfEach() {
		version, lines, rest := cutText(r)
		for i, line := range lines {
			name, value, _ := strings.Cut(line, ": ")
			for _, other := range []string{
				strings.ToLower(name) + ": " + value, strings.ToUpper(name) + ": " + value, name + ":" + value, name + ":  " + value, name + ":\t" + value, name + ": " + value + " ", name + ": " + value + "\t", name + ":\t \t" + value + " \t ", strings.ToLower(name) + ":" + value,
			} {
				if other != line {
					now := slices.Clone(lines)
					now[i] = other
					checkRefused(t, textOf(version, now, rest), 1)
				}
			}
			for _, other := range []string{name + " : " + value, " " + line, "\t" + line, name + " " + value, ":" + line, "", line + "\r", line + "\n", "\r" + line, line + "\x00", line + "\x7f"} {
				now := slices.Clone(lines)
				now[i] = other
				checkRefused(t, textOf(version, now, rest), grammarModel(textOf(version, now, rest)))
				if other != "" && impl.Grammar(textOf(version, now, rest)) != -1 {
					t.Errorf("a looser reader takes %q for %q", other, line)
				}
			}
		}
	}
}

func TestOtherVersions(t *testing.T) {
	for _, r := range oneOfEach() {
		_, lines, rest := cutText(r)
		for _, version := range []string{"", "WARC/1.0", "WARC/1.2", "WARC/2.1", "WARC/1.10", "WARC/11", "WARC/1", "WARC", "warc/1.1", "Warc/1.1", "HTTP/1.1", " WARC/1.1", "WARC/1.1 ", "WARC/1.1\t", "WARC /1.1", "WARC/ 1.1", "WARC/01.1", "WARC/1.01", "WARC/1.1:", "WARC/1.1\r", "\r\nWARC/1.1", "WARC/1.1\r\n", "\xffWARC/1.1", "XWARC/1.1"} {
			checkRefused(t, textOf(version, lines, rest), -1)
		}
		// An end of line that is not CRLF.
		text := recTextModel(r)
		for _, end := range []string{"", "\n", "\r", "\n\r", "\r\r\n", "\r\n\n"} {
			for at := range len(lines) + 2 {
				now := text
				for n, from := 0, 0; ; n++ {
					i := from + strings.Index(now[from:], "\r\n")
					if n == at {
						now = now[:i] + end + now[i+2:]
						break
					}
					from = i + 2
				}
				checkNoRec(t, impl.Cur{Text: now})
				checkBytes(t, now)
			}
		}
	}
}

// withValue is the text of r with another value in the line of that name.
func withValue(r impl.Rec, name, value string) string {
	version, lines, rest := cutText(r)
	now := slices.Clone(lines)
	for i, line := range lines {
		if strings.HasPrefix(line, name+": ") {
			now[i] = name + ": " + value
		}
	}
	return textOf(version, now, rest)
}

func TestOtherTypesOfRecords(t *testing.T) {
	for _, r := range oneOfEach() {
		for _, name := range []string{"resource", "conversion", "continuation", "Request", "REQUEST", "requests", "reques", "info", "answer", "mark", "0", "1", "-1", "x", "warcInfo"} {
			checkRefused(t, withValue(r, "WARC-Type", name), 1)
		}
		for _, name := range []string{"", " ", "a b", "request response", "(x)", "a,b", "x\xe4", "\"request\"", "request;", "<request>", "a/b"} {
			checkRefused(t, withValue(r, "WARC-Type", name), -1)
		}
		for _, other := range kindRules {
			if other.name != kindRules[r.Kind].name {
				checkRefused(t, withValue(r, "WARC-Type", other.name), 1)
			}
		}
		for _, content := range []string{"application/http", "application/warc-fields", "application/http; msgtype=request", "application/json", "Application/http", "", "x"} {
			if content != kindRules[r.Kind].content {
				checkRefused(t, withValue(r, "Content-Type", content), 1)
			}
		}
	}
}

// A request and a mark have the same lines but for what tells their type, and so one that tells both is another record.
func TestTypesThatFitTheirContent(t *testing.T) {
	ask := askRec(4, 5, someUrl, someAsk)
	text := withValue(ask, "WARC-Type", "metadata")
	checkRefused(t, text, 1)
	text = strings.Replace(text, "application/http", "application/warc-fields", 1)
	mark := markRec(4, 5, someUrl, someAsk)
	checkRec(t, impl.Cur{Text: text}, mark, len(text), true)
}

func TestOtherValuesOfARevisit(t *testing.T) {
	r := oneOfEach()[impl.RcRevisit]
	for _, profile := range []string{"", "x", "server-not-modified", "Identical-payload-digest", "identical-payload-digest1", "identical-payload", "http://netpreserve.org/warc/1.1/revisit/identical-payload-digest"} {
		checkRefused(t, withValue(r, "WARC-Profile", profile), 1)
	}
	for _, refers := range []string{"", "x", "5", "<5>", "<urn:stillroom:0>", "<urn:stillroom:8>", "<urn:stillroom:9>", "<urn:stillroom:05>", "<urn:stillroom:-1>", "<urn:stillroom:1000000>", "<urn:stillroom:999999>", "<urn:stillroom:>", "urn:stillroom:5", "<urn:stillroom:5", "<urn:stillroom:5> <urn:stillroom:6>"} {
		checkRefused(t, withValue(r, "WARC-Refers-To", refers), 1)
	}
	for _, refers := range []int{1, 4, 6, 7} {
		text := withValue(r, "WARC-Refers-To", fmt.Sprintf("<urn:stillroom:%d>", refers))
		checkRec(t, impl.Cur{Text: text}, with(r, func(r *impl.Rec) { r.Refers = refers }), len(text), true)
	}
}

func TestOtherDigests(t *testing.T) {
	for _, r := range oneOfEach() {
		label := labelModel(r.Block)
		for _, other := range []string{"", "sha1:", labelModel(""), labelModel(r.Block + "\r\n\r\n"), labelModel(r.Block + "x"), labelModel("\r\n\r\n" + r.Block), strings.ToLower(label), label[5:], "SHA1:" + label[5:], "md5:" + label[5:], label[:36], label + "A", "sha1:" + strings.Repeat("A", 32)} {
			checkRefused(t, withValue(r, "WARC-Block-Digest", other), 1)
		}
		if r.Kind != impl.RcAnswer {
			continue
		}
		for _, other := range []string{"", "sha1:", label, labelModel(""), labelModel("hello\r\n\r\n"), labelModel("hell"), strings.ToLower(r.Label), r.Label[5:], r.Label[:36]} {
			checkRefused(t, withValue(r, "WARC-Payload-Digest", other), 1)
		}
	}
}

func TestOtherAddressesInTexts(t *testing.T) {
	for _, r := range oneOfEach()[1:] {
		for _, url := range otherUrls() {
			text := withValue(r, "WARC-Target-URI", url)
			checkNoRec(t, impl.Cur{Text: text})
			if len(text) < 60000 {
				checkRefused(t, text, grammarModel(text))
			}
		}
	}
}

func TestIdsAndDatesInTexts(t *testing.T) {
	for _, r := range oneOfEach() {
		for _, id := range []string{"<x>", "<<>", "<>>", "< >", "<<>>", "<urn:stillroom:08>", "<urn:stillroom:1000000>", "<urn:stillroom:-1>", "<urn:stillroom:>", "<urn:uuid:12>", "<\xe4>", "<a> <b>", "<urn:Stillroom:1>"} {
			checkRefused(t, withValue(r, "WARC-Record-ID", id), 1)
		}
		for _, id := range []string{"", "x", "<>", "<", ">", "><", "<x", "x>", "urn:stillroom:8", "<urn:stillroom:8", "urn:stillroom:8>", "\"<x>\"", "<x>y", "y<x>", "[x]"} {
			checkRefused(t, withValue(r, "WARC-Record-ID", id), -1)
		}
		for _, date := range []string{"", "x", "0", "1970-01-01", "1970-01-01T00:00:00", "1970-01-01t00:00:00z", "1970-01-01 00:00:00Z", "1970-01-01T00:00:00+00:00", "1970-01-01T00:00:00.0Z", "1969-12-31T23:59:59Z", "10000-01-01T00:00:00Z", "2021-02-29T00:00:00Z", "2020-13-01T00:00:00Z", "2020-00-01T00:00:00Z", "2020-01-32T00:00:00Z", "2020-01-01T24:00:00Z", "2020-01-01T00:60:00Z", "2016-12-31T23:59:60Z", "Tue, 03 Mar 2020 16:05:21 GMT", "20200303160521", "2020-3-3T16:05:21Z", "2020-03-03T16:05:21ZZ"} {
			checkRefused(t, withValue(r, "WARC-Date", date), -1)
		}
		text := withValue(r, "WARC-Date", "2024-02-29T12:34:56Z")
		checkRec(t, impl.Cur{Text: text}, with(r, func(r *impl.Rec) { r.Time = timeOf(2024, 2, 29, 12, 34, 56) }), len(text), true)
	}
}

func TestOtherLengths(t *testing.T) {
	for _, r := range oneOfEach() {
		n := len(r.Block)
		for size := range n + 20 {
			if size != n {
				checkRefused(t, withValue(r, "Content-Length", strconv.Itoa(size)), -1)
			}
		}
		for _, size := range []int{4000, 4001, 60000, impl.MaxNum - 3, impl.MaxNum, impl.MaxNum + 1, math.MaxInt - 3, math.MaxInt, -1, math.MinInt} {
			checkRefused(t, withValue(r, "Content-Length", strconv.Itoa(size)), -1)
		}
		for _, form := range []string{"", "0%d", "00%d", "+%d", "-%d", "%d.0", "%da", "0x%d", "%d,%[1]d", "%d %[1]d", "1844674407370955161%d", "x", "%d;", "\"%d\""} {
			value := form
			if strings.Contains(form, "%") {
				value = fmt.Sprintf(form, n)
			}
			checkRefused(t, withValue(r, "Content-Length", value), -1)
		}
	}
}

// A length that is too small, where two CRLF stand in the block all the same: a digest of the whole block is not that of its beginning.
func TestLengthsThatEndInTheBlock(t *testing.T) {
	r := markRec(6, 7, someUrl, "ab\r\n\r\ncd")
	text := withValue(r, "Content-Length", "2")
	checkRefused(t, text, -1)
	cut := text[:len(text)-len("cd\r\n\r\n")]
	checkRefused(t, cut, 1)
	checkNoRec(t, impl.Cur{Text: text})
	short := withValue(r, "WARC-Block-Digest", labelModel("ab"))
	short = strings.Replace(short, "Content-Length: 8", "Content-Length: 2", 1)
	checkRec(t, impl.Cur{Text: short}, markRec(6, 7, someUrl, "ab"), len(cut), true)
	// A revisit whose block has more behind its head than the label's payload.
	whole := answerRec(5, 6, someUrl, someHead, "hello")
	as := strings.Replace(withValue(whole, "WARC-Type", "revisit"), "WARC-Payload-Digest", "WARC-Refers-To: <urn:stillroom:2>\r\nWARC-Profile: identical-payload-digest\r\nWARC-Payload-Digest", 1)
	checkRefused(t, as, 1)
}

func TestEndsOfRecords(t *testing.T) {
	for _, r := range oneOfEach() {
		body := strings.TrimSuffix(recTextModel(r), "\r\n\r\n")
		for _, end := range []string{"", "\r", "\n", "\r\n", "\r\n\r", "\n\r\n\r", "\n\n", "\r\r\n\n", "\r\n \r\n", "\r\n\n\r", "xxxx", "\r\nx\r\n", "\r\n\r\r", "\n\r\n\r\n", "\r\r\n\r\n", " \r\n\r\n"} {
			checkRefused(t, body+end, -1)
		}
		for _, tail := range []string{"\r\n", "\r\n\r\n", "x", "\x00"} {
			checkRec(t, impl.Cur{Text: body + "\r\n\r\n" + tail}, r, len(body)+4, true)
			checkBytes(t, body+"\r\n\r\n"+tail)
		}
	}
}

// looseText is a record for a looser reader, with further lines.
func looseText(lines ...string) string {
	return textOf("WARC/1.1", append([]string{"warc-type:a", "WARC-RECORD-ID: <b>", "Warc-Date:\t1970-01-01T00:00:00Z ", "content-length: 3"}, lines...), "abc\r\n\r\n")
}

func checkGrammar(t *testing.T, b string, want int) {
	t.Helper()
	if got := impl.Grammar(b); got != want {
		t.Errorf("Grammar(%.700q) is %d, not %d", b, got, want)
	}
	checkBytes(t, b)
}

func TestGrammarByHand(t *testing.T) {
	checkGrammar(t, "", 0)
	checkGrammar(t, looseText(), 1)
	checkGrammar(t, looseText()+looseText("X: y")+looseText(), 3)
	checkGrammar(t, looseText()+recTextModel(oneOfEach()[2]), 2)
	checkGrammar(t, looseText("X: y", "X: y", "x:", "X:z"), 1)
	checkGrammar(t, looseText(strings.Split(strings.Repeat("x:y\n", 2000)+"x:y", "\n")...), 1)
	checkGrammar(t, looseText("WARC-Target-URI: no address", "WARC-Refers-To: x", "WARC-Block-Digest: sha9:x", "WARC-Target-URI: twice"), 1)
	checkGrammar(t, looseText("X: \xe4\xff\t \x80"), 1)
	checkGrammar(t, looseText("x-warc-date: no date", "warc-date-x: 1", "content-lengths: x", "warc type:x"), -1)
	checkGrammar(t, looseText("x-warc-date: no date", "warc-date-x: 1", "content-lengths: x"), 1)
	checkGrammar(t, looseText()+"\r\n", -1)
	checkGrammar(t, looseText()+"\r\n"+looseText(), -1)
	checkGrammar(t, "\r\n"+looseText(), -1)
	checkGrammar(t, looseText()[:len(looseText())-1], -1)
	checkGrammar(t, looseText()+looseText()[:20], -1)
	checkGrammar(t, "WARC/1.1", -1)
	checkGrammar(t, "WARC/1.1\r\n", -1)
	checkGrammar(t, "WARC/1.1\r\n\r\n", -1)
	checkGrammar(t, "WARC/1.1\r\n\r\n\r\n\r\n", -1)
	checkGrammar(t, strings.Repeat("WARC/1.1\r\n", 5000), -1)
	checkGrammar(t, strings.Repeat("\r\n", 30000), -1)
	checkGrammar(t, strings.Repeat("x", 1<<20), -1)
}

func TestNamesThatMustBeThereOnce(t *testing.T) {
	lines := []string{"WARC-Type: a", "WARC-Record-ID: <b>", "WARC-Date: 1970-01-01T00:00:00Z", "Content-Length: 3"}
	checkGrammar(t, textOf("WARC/1.1", lines, "abc\r\n\r\n"), 1)
	for i, line := range lines {
		name, value, _ := strings.Cut(line, ":")
		checkGrammar(t, textOf("WARC/1.1", slices.Delete(slices.Clone(lines), i, i+1), "abc\r\n\r\n"), -1)
		for _, other := range []string{line, strings.ToUpper(line), strings.ToLower(name) + ":" + value, name + ":", name + ": x", strings.ToUpper(name) + ":"} {
			for at := range len(lines) + 1 {
				checkGrammar(t, textOf("WARC/1.1", slices.Insert(slices.Clone(lines), at, other), "abc\r\n\r\n"), -1)
			}
		}
		// Three of one name are no better than two.
		checkGrammar(t, textOf("WARC/1.1", append(slices.Clone(lines), line, line), "abc\r\n\r\n"), -1)
		for _, other := range []string{"X" + name, name + "X", name[1:], name[:len(name)-1], strings.ReplaceAll(name, "-", "_"), strings.ReplaceAll(name, "-", "")} {
			now := slices.Clone(lines)
			now[i] = other + ":" + value
			checkGrammar(t, textOf("WARC/1.1", now, "abc\r\n\r\n"), -1)
		}
	}
	// With an empty block, too: a length that is missing is not one of 0.
	checkGrammar(t, textOf("WARC/1.1", append(lines[:3:3], "Content-Length: 0"), "\r\n\r\n"), 1)
	checkGrammar(t, textOf("WARC/1.1", lines[:3], "\r\n\r\n"), -1)
	checkGrammar(t, textOf("WARC/1.1", append(lines[:3:3], "Content-Length: 0", "Content-Length: 0"), "\r\n\r\n"), -1)
	checkGrammar(t, textOf("WARC/1.1", append(lines[:3:3], "Content-Length:"), "\r\n\r\n"), -1)
}

func TestHowLongALineOfARecordIs(t *testing.T) {
	for n := 290; n <= 310; n++ {
		for _, line := range []string{
			"X: " + strings.Repeat("y", n-3), strings.Repeat("x", n-1) + ":", strings.Repeat("x", n-5) + ": yz ", "X:" + strings.Repeat(" ", n-2), "X:" + strings.Repeat("\t", n-3) + "y", "X: " + strings.Repeat("\xff", n-3),
		} {
			checkGrammar(t, looseText(line), countIf(n <= 300 && len(line) == n))
			checkGrammar(t, looseText("X: y", line, "Y:"), countIf(n <= 300))
		}
		for _, line := range []string{"warc-type:a", "warc-record-id:<b>", "warc-date:1970-01-01T00:00:00Z", "content-length:3"} {
			padded := line + strings.Repeat(" ", n-len(line))
			checkGrammar(t, strings.Replace(textOf("WARC/1.1", []string{"warc-type:a", "warc-record-id:<b>", "warc-date:1970-01-01T00:00:00Z", "content-length:3"}, "abc\r\n\r\n"), line+"\r\n", padded+"\r\n", 1), countIf(n <= 300))
		}
	}
	for _, n := range []int{1000, 4000, 4001, 50000} {
		checkGrammar(t, looseText("X: "+strings.Repeat("y", n)), -1)
	}
}

func TestEachByteOfALooseLine(t *testing.T) {
	for i := range 256 {
		s := string([]byte{byte(i)})
		token := strings.IndexByte("ABCDEFGHIJKLMNOPQRSTUVWXYZabcdefghijklmnopqrstuvwxyz0123456789!#$%&'*+-.^_|~`", byte(i)) >= 0
		value := plain(i)
		checkGrammar(t, looseText("a"+s+"b: c"), countIf(token || s == ":"))
		checkGrammar(t, looseText(s+": c"), countIf(token))
		checkGrammar(t, looseText("x: a"+s+"b"), countIf(value))
		checkGrammar(t, looseText("x: "+s), countIf(value))
		checkGrammar(t, looseText("x:"+s+"a"), countIf(value))
		checkGrammar(t, looseText("x"+s), countIf(s == ":"))
		checkGrammar(t, strings.Replace(looseText(), "warc-type:a", "warc-type:a"+s+"a", 1), countIf(token))
		checkGrammar(t, strings.Replace(looseText(), "warc-type:a", "warc-type:"+s, 1), countIf(token))
		checkGrammar(t, strings.Replace(looseText(), "<b>", "<"+s+">", 1), countIf(value))
		checkGrammar(t, strings.Replace(looseText(), "<b>", s+"b>", 1), countIf(s == "<"))
		checkGrammar(t, strings.Replace(looseText(), "<b>", "<b"+s, 1), countIf(s == ">"))
		checkGrammar(t, strings.Replace(looseText(), "abc", "a"+s+"c", 1), 1)
	}
}

func TestChangedBytesOfRecords(t *testing.T) {
	small := revisitRec(3, 4, "http://a/", 1, "x", "y\r\n\r\n")
	eachChange(recTextModel(small), func(b string) { checkBytes(t, b) })
	eachChange(looseText("X:y"), func(b string) { checkBytes(t, b) })
	for _, r := range oneOfEach() {
		text := recTextModel(r)
		for at := range len(text) {
			for _, s := range []string{"", " ", "\r", "\n", "\r\n", "0", "1", ":", "a", "A", "\xff"} {
				checkBytes(t, text[:at]+s+text[at:])
				checkBytes(t, text[:at]+s+text[at+1:])
			}
		}
	}
}

// Whatever row is read is written again the same, and a looser reader counts as many.
func TestWhatIsReadHasOneText(t *testing.T) {
	taken := 0
	parts := []string{recTextModel(infoRec(1, 2, "")), recTextModel(answerRec(3, 4, "http://a/", "\r\n\r\n", "x")), recTextModel(markRec(1, 2, "http://a/", "\r\n\r\n")), looseText(), "\r\n\r\n", "WARC/1.1\r\n", "x"}
	eachPieces(parts, 4, func(b string) {
		checkBytes(t, b)
		list, ok := impl.ReadRecs(b)
		if !ok {
			return
		}
		taken++
		again := ""
		for _, r := range list {
			again += impl.RecText(r)
		}
		if again != b || impl.Grammar(b) != len(list) {
			t.Errorf("%d records are written as %.300q, not %.300q", len(list), again, b)
		}
	})
	if taken != 1+3+9+27+81 {
		t.Errorf("%d rows are taken", taken)
	}
}

// Parts of records, right and wrong, each with each.
func TestEachRecordOfParts(t *testing.T) {
	for kind := -1; kind <= otherKind; kind++ {
		for _, id := range []int{-1, 0, 1, 2, impl.MaxId, impl.MaxId + 1} {
			for _, at := range []int{-1, 0, impl.MaxTime, impl.MaxTime + 1} {
				for _, url := range []string{"", "http://a/", "http://a"} {
					for _, refers := range []int{-1, 0, 1, 2} {
						for _, label := range []string{"", labelModel(""), labelModel("x"), "sha1:"} {
							for _, block := range []string{"", "\r\n\r\n", "\r\n\r\nx", "\r\n"} {
								checkAnyRec(t, impl.Rec{Kind: kind, Id: id, Time: at, Url: url, Refers: refers, Label: label, Block: block})
							}
						}
					}
				}
			}
		}
	}
}

func TestListsOfRecordsAreNewMemory(t *testing.T) {
	text := ""
	for _, r := range oneOfEach() {
		text += recTextModel(r)
	}
	first, _ := impl.ReadRecs(text)
	second, _ := impl.ReadRecs(text)
	for i := range first {
		first[i] = impl.Rec{Kind: -1}
	}
	_ = append(first[:0], impl.Rec{Kind: -2}, impl.Rec{Kind: -3})
	if !slices.Equal(second, oneOfEach()) {
		t.Error("a list changes with another one")
	}
	if third, ok := impl.ReadRecs(text); !ok || !slices.Equal(third, oneOfEach()) {
		t.Error("a list that was answered has been kept")
	}
	// What is written into the bytes from which the text was made is not seen in the list.
	bytes := []byte(text)
	fourth, _ := impl.ReadRecs(string(bytes))
	clear(bytes)
	if !slices.Equal(fourth, oneOfEach()) {
		t.Error("a list changes with the bytes that were read")
	}
}
