package tests

import (
	"fmt"
	"regexp"
	"slices"
	"strconv"
	"strings"
	"testing"

	"loop.example/g00651/impl"
)

// The statuses that have a Reason of their own, by the document.
func knownReasons() map[int]string {
	return map[int]string{
		200: "OK", 304: "Not Modified", 400: "Bad Request", 413: "Content Too Large", 431: "Request Header Fields Too Large",
		502: "Bad Gateway", 503: "Service Unavailable", 504: "Gateway Timeout",
	}
}

func sameMsg(a, b impl.Msg) bool {
	return a.Method == b.Method && a.Target == b.Target && a.Status == b.Status && a.Reason == b.Reason &&
		a.Bare == b.Bare && slices.Equal(a.Fields, b.Fields) && a.Body == b.Body
}

// shown is m for a report, cut where it is long.
func shown(m impl.Msg) string {
	return fmt.Sprintf("%.60q %.60q %d %q bare %v %.200q %.60q", m.Method, m.Target, m.Status, m.Reason, m.Bare, m.Fields, m.Body)
}

func requestOf(method, target, body string, fields ...string) impl.Msg {
	return impl.Msg{Method: method, Target: target, Body: body, Fields: fieldsOf(fields...)}
}

func answerOf(status int, reason, body string, fields ...string) impl.Msg {
	return impl.Msg{Status: status, Reason: reason, Body: body, Fields: fieldsOf(fields...)}
}

func bareOf(status int, reason string, fields ...string) impl.Msg {
	return impl.Msg{Status: status, Reason: reason, Bare: true, Fields: fieldsOf(fields...)}
}

// changed is m with one change; the fields of m stay as they are.
func changed(m impl.Msg, change func(m *impl.Msg)) impl.Msg {
	m.Fields = slices.Clone(m.Fields)
	change(&m)
	return m
}

// headLines are lines, each with its end, and the empty line that ends a head.
func headLines(lines ...string) string {
	return strings.Join(lines, "\r\n") + "\r\n\r\n"
}

// grownFields fill just n bytes of a head, the ends of their lines counted.
func grownFields(n int) []impl.Field {
	const least, most = len("F: \r\n"), len("F: \r\n") + impl.MaxValue
	var l []impl.Field
	for n > 0 {
		take := min(n, most)
		if n != take && n-take < least {
			take -= least
		}
		l = append(l, impl.Field{Name: "F", Value: strings.Repeat("v", take-least)})
		n -= take
	}
	return l
}

// grown is m with fields that make its head one of just n bytes.
func grown(m impl.Msg, n int) impl.Msg {
	m.Fields = append(slices.Clone(m.Fields), grownFields(n-len(headModel(m)))...)
	return m
}

// latin has a rune for each byte, so that patterns count bytes.
func latin(s string) string {
	runes := make([]rune, len(s))
	for i := range len(s) {
		runes[i] = rune(s[i])
	}
	return string(runes)
}

// The rules told in another way: patterns, and one line of format for each line of a head.

const methodPattern = "([A-Za-z0-9!#$%&'*+.^_|~`-]{1,20})"
const targetPattern = `([!-~]{1,200})`
const reasonPattern = `([\t -~\x{80}-\x{ff}]{0,40})`

var (
	methodForm   = regexp.MustCompile("^" + methodPattern + "$")
	targetForm   = regexp.MustCompile("^" + targetPattern + "$")
	reasonForm   = regexp.MustCompile("^" + reasonPattern + "$")
	requestForm  = regexp.MustCompile("^" + methodPattern + " " + targetPattern + ` HTTP/1\.1$`)
	answerForm   = regexp.MustCompile(`^HTTP/1\.1 ([2-5][0-9][0-9]) ` + reasonPattern + "$")
	framedForm   = regexp.MustCompile(`^(?i)(content-length|transfer-encoding|trailer)$`)
	lengthForm   = regexp.MustCompile(`^(0|[1-9][0-9]{0,14})$`)
	sizeLineForm = regexp.MustCompile(`^([0-9a-fA-F]{1,7})(;[^\r\n]*)?\r\n`)
	trailerForm  = regexp.MustCompile(`^([^\r\n]+\r\n)*\r\n$`)
)

func headModel(m impl.Msg) string {
	var b strings.Builder
	told := m.Body != ""
	if m.Method != "" {
		fmt.Fprintf(&b, "%s %s HTTP/1.1\r\n", m.Method, m.Target)
	} else {
		fmt.Fprintf(&b, "HTTP/1.1 %d %s\r\n", m.Status, m.Reason)
		told = !m.Bare
	}
	for _, f := range m.Fields {
		fmt.Fprintf(&b, "%s: %s\r\n", f.Name, f.Value)
	}
	if told {
		fmt.Fprintf(&b, "Content-Length: %d\r\n", len(m.Body))
	}
	return b.String() + "\r\n"
}

func msgModel(m impl.Msg) bool {
	for _, f := range m.Fields {
		if framedForm.MatchString(f.Name) {
			return false
		}
	}
	if !impl.FieldsOk(m.Fields) || len(m.Fields) > 19 || len(m.Body) > 600 || len(headModel(m)) > 1500 {
		return false
	}
	if m.Method != "" {
		return methodForm.MatchString(latin(m.Method)) && targetForm.MatchString(latin(m.Target)) && m.Status == 0 && m.Reason == "" && !m.Bare
	}
	if m.Target != "" || m.Status < 200 || m.Status > 599 || !reasonForm.MatchString(latin(m.Reason)) {
		return false
	}
	return !(m.Bare && m.Body != "") && !(m.Status == 204 && !m.Bare) && !(m.Status == 304 && !m.Bare)
}

func firstLineModel(line string, answer bool) (impl.Msg, bool) {
	if answer {
		parts := answerForm.FindStringSubmatch(latin(line))
		if parts == nil {
			return impl.Msg{}, false
		}
		status, _ := strconv.Atoi(parts[1])
		return impl.Msg{Status: status, Reason: line[len("HTTP/1.1 200 "):]}, true
	}
	parts := requestForm.FindStringSubmatch(latin(line))
	if parts == nil {
		return impl.Msg{}, false
	}
	return impl.Msg{Method: parts[1], Target: parts[2]}, true
}

func readHeadModel(b string, answer bool) (impl.Msg, int, int) {
	if len(b) > 4000 {
		return impl.Msg{}, 0, 413
	}
	var m impl.Msg
	at := 0
	for n := 0; ; n++ {
		size := strings.IndexAny(b[at:], "\r\n")
		if size < 0 || !strings.HasPrefix(b[at+size:], "\r\n") {
			return impl.Msg{}, 0, 400
		}
		line := b[at : at+size]
		at += size + 2
		if size > 300 || at > 1500 {
			return impl.Msg{}, 0, 431
		}
		if n == 0 {
			ok := false
			if m, ok = firstLineModel(line, answer); !ok {
				return impl.Msg{}, 0, 400
			}
			continue
		}
		if size == 0 {
			return m, at, 0
		}
		if n > 20 {
			return impl.Msg{}, 0, 431
		}
		f, ok := impl.ReadField(line)
		if !ok {
			return impl.Msg{}, 0, 400
		}
		m.Fields = append(m.Fields, f)
	}
}

// pieces are the words of all fields of that name; no value has quotes.
func pieces(l []impl.Field, name string) (list []string, is bool) {
	for _, f := range l {
		if smallName(f) != name {
			continue
		}
		is = true
		for _, piece := range strings.Split(f.Value, ",") {
			if piece = strings.Trim(piece, " \t"); piece != "" {
				list = append(list, piece)
			}
		}
	}
	return list, is
}

func framingModel(l []impl.Field, answer, bare bool) (int, int) {
	codings, encoded := pieces(l, "transfer-encoding")
	lengths, long := pieces(l, "content-length")
	right := impl.FieldsOk(l) && !(encoded && long)
	if encoded && (len(codings) != 1 || strings.ToLower(codings[0]) != "chunked") {
		right = false
	}
	number := 0
	for _, piece := range lengths {
		right = right && lengthForm.MatchString(piece) && piece == lengths[0]
		number, _ = strconv.Atoi(lengths[0])
	}
	if !right || long && len(lengths) == 0 {
		return 4, 0
	}
	switch {
	case bare:
		return 0, 0
	case encoded:
		return 2, 0
	case long:
		return 1, number
	case answer:
		return 3, 0
	}
	return 0, 0
}

func chunksModel(b string) (string, int) {
	body := ""
	for {
		parts := sizeLineForm.FindStringSubmatch(latin(b))
		if parts == nil || len(parts[1])+len([]rune(parts[2])) > 300 {
			return "", 400
		}
		size, _ := strconv.ParseInt(parts[1], 16, 64)
		if len(body)+int(size) > 600 {
			return "", 413
		}
		b = b[strings.Index(b, "\n")+1:]
		if size == 0 {
			break
		}
		if len(b) < int(size)+2 || b[size:size+2] != "\r\n" {
			return "", 400
		}
		body, b = body+b[:size], b[size+2:]
	}
	lines := strings.Split(b, "\r\n")
	lines = lines[:max(0, len(lines)-2)]
	if !trailerForm.MatchString(latin(b)) || len(lines) > 20 {
		return "", 400
	}
	for _, line := range lines {
		if _, ok := impl.ReadField(line); !ok || len(line) > 300 {
			return "", 400
		}
	}
	return body, 0
}

func bodyModel(rest string, kind, size int) (string, int) {
	switch {
	case kind == 4, kind == 0 && rest != "":
		return "", 400
	case kind == 1 && size > 600, kind == 3 && len(rest) > 600:
		return "", 413
	case kind == 1 && len(rest) != size:
		return "", 400
	case kind == 2:
		return chunksModel(rest)
	}
	return rest, 0
}

func readModel(b string, answer, head bool) (impl.Msg, int) {
	m, at, code := readHeadModel(b, answer)
	if code != 0 {
		return impl.Msg{}, code
	}
	m.Bare = answer && (head || m.Status == 204 || m.Status == 304)
	kind, size := framingModel(m.Fields, answer, m.Bare)
	m.Body, code = bodyModel(b[at:], kind, size)
	if code != 0 {
		return impl.Msg{}, code
	}
	m.Fields = slices.DeleteFunc(m.Fields, func(f impl.Field) bool { return framedForm.MatchString(f.Name) })
	if !msgModel(m) {
		return impl.Msg{}, 431
	}
	return m, 0
}

// checkReaders holds all that reads b against the rules told in another way.
func checkReaders(t *testing.T, b string) {
	t.Helper()
	for _, answer := range []bool{false, true} {
		m, at, code := impl.ReadHead(b, answer)
		want, wantAt, wantCode := readHeadModel(b, answer)
		if !sameMsg(m, want) || at != wantAt || code != wantCode {
			t.Fatalf("ReadHead(%q, %v) is %s %d %d, not %s %d %d", b, answer, shown(m), at, code, shown(want), wantAt, wantCode)
		}
	}
	m, code := impl.ReadRequest(b)
	if want, wantCode := readModel(b, false, false); !sameMsg(m, want) || code != wantCode {
		t.Fatalf("ReadRequest(%q) is %s %d, not %s %d", b, shown(m), code, shown(want), wantCode)
	}
	for _, head := range []bool{false, true} {
		m, code := impl.ReadAnswer(b, head)
		if want, wantCode := readModel(b, true, head); !sameMsg(m, want) || code != wantCode {
			t.Fatalf("ReadAnswer(%q, %v) is %s %d, not %s %d", b, head, shown(m), code, shown(want), wantCode)
		}
	}
}

func checkRequest(t *testing.T, b string, want impl.Msg, wantCode int) {
	t.Helper()
	if m, code := impl.ReadRequest(b); !sameMsg(m, want) || code != wantCode {
		t.Errorf("ReadRequest(%.300q) is %s %d, not %s %d", b, shown(m), code, shown(want), wantCode)
	}
}

func checkNoRequest(t *testing.T, b string, wantCode int) {
	t.Helper()
	checkRequest(t, b, impl.Msg{}, wantCode)
}

func checkAnswer(t *testing.T, b string, head bool, want impl.Msg, wantCode int) {
	t.Helper()
	if m, code := impl.ReadAnswer(b, head); !sameMsg(m, want) || code != wantCode {
		t.Errorf("ReadAnswer(%.300q, %v) is %s %d, not %s %d", b, head, shown(m), code, shown(want), wantCode)
	}
}

func checkNoAnswer(t *testing.T, b string, head bool, wantCode int) {
	t.Helper()
	checkAnswer(t, b, head, impl.Msg{}, wantCode)
}

func checkHead(t *testing.T, b string, answer bool, want impl.Msg, wantAt, wantCode int) {
	t.Helper()
	if m, at, code := impl.ReadHead(b, answer); !sameMsg(m, want) || at != wantAt || code != wantCode {
		t.Errorf("ReadHead(%.300q, %v) is %s %d %d, not %s %d %d", b, answer, shown(m), at, code, shown(want), wantAt, wantCode)
	}
}

func checkNoHead(t *testing.T, b string, answer bool, wantCode int) {
	t.Helper()
	checkHead(t, b, answer, impl.Msg{}, 0, wantCode)
}

func TestConstantsOfMessages(t *testing.T) {
	got := []int{
		impl.MaxMsg, impl.MaxHead, impl.MaxLine, impl.MaxMethod, impl.MaxTarget, impl.MaxReason, impl.MaxBody,
		impl.MsOk, impl.MsBad, impl.MsLarge, impl.MsFields, impl.FrNone, impl.FrLength, impl.FrChunked, impl.FrRest, impl.FrBad,
	}
	if !slices.Equal(got, []int{4000, 1500, 300, 20, 200, 40, 600, 0, 400, 413, 431, 0, 1, 2, 3, 4}) {
		t.Errorf("the constants are %d", got)
	}
}

// rightRequests are messages of all kinds that a request may be.
func rightRequests() []impl.Msg {
	list := []impl.Msg{
		requestOf("GET", "/", ""), requestOf("G", "*", ""), requestOf("get", "http://a.b/c?d=e#f", ""), requestOf("!#$%&'*+-.^_|~`", "!~", ""),
		requestOf("GET", "/", "", "Host", "a.b"), requestOf("GET", "/", "", "Host", "a.b", "host", "", "X", "a: b, \"c\""),
		requestOf("POST", "/p", "b"), requestOf("POST", "/p", "a body\r\n\r\n", "Host", "a.b"), requestOf("HEAD", "/", "GET / HTTP/1.1\r\n\r\n"),
		requestOf("GET", "/", "", "Connection", "close", "TE", "trailers", "Content-Type", "x/y"), requestOf("HTTP/1.1"[:4], "HTTP/1.1", ""),
		requestOf("PUT", "/", everyByte()), requestOf("POST", "/", "0\r\n\r\n", "Trailers", "x", "Content-Lengths", "1", "X-Transfer-Encoding", "chunked"),
		requestOf(strings.Repeat("M", impl.MaxMethod), "/", ""), requestOf("GET", strings.Repeat("/", impl.MaxTarget), ""),
		requestOf("POST", "/", strings.Repeat("b", impl.MaxBody)), requestOf("POST", "/", strings.Repeat("b", impl.MaxBody-1)),
		requestOf(strings.Repeat("M", impl.MaxMethod), strings.Repeat("/", impl.MaxTarget), strings.Repeat("\n", impl.MaxBody), "A", "b"),
	}
	for _, body := range []string{"", "b"} {
		m := requestOf("GET", "/", body)
		m.Fields = manyFields(impl.MaxFields - 2)
		list = append(list, m)
		m.Fields = manyFields(impl.MaxFields - 1)
		list = append(list, m)
		for n := impl.MaxHead - 3; n <= impl.MaxHead; n++ {
			list = append(list, grown(requestOf("GET", "/", body, "Host", "a.b"), n))
		}
	}
	return list
}

// rightAnswers are messages of all kinds that an answer may be.
func rightAnswers() []impl.Msg {
	list := []impl.Msg{
		answerOf(200, "OK", ""), answerOf(200, "", ""), answerOf(599, "x", "body"), answerOf(404, "Not Found", "", "Server", "s"),
		answerOf(200, "OK", "a\r\n\r\nb", "A", "b", "a", ""), answerOf(201, " two  blanks ", "b"), answerOf(203, "\tx\xff\x80", everyByte()),
		answerOf(500, "HTTP/1.1 200 OK", "HTTP/1.1 200 OK\r\n\r\n"), answerOf(200, strings.Repeat("r", impl.MaxReason), "x"),
		answerOf(205, "", strings.Repeat("b", impl.MaxBody)), answerOf(303, "", strings.Repeat("b", impl.MaxBody-1), "Connection", "close"),
		bareOf(200, "OK"), bareOf(204, "No Content"), bareOf(304, "Not Modified", "Etag", `"a"`), bareOf(599, ""), bareOf(404, "x", "A", "b"),
	}
	for _, m := range []impl.Msg{answerOf(200, "OK", ""), answerOf(200, "OK", "body"), bareOf(200, "OK"), bareOf(304, "")} {
		m.Fields = manyFields(impl.MaxFields - 1)
		list = append(list, m)
		m.Fields = nil
		for n := impl.MaxHead - 3; n <= impl.MaxHead; n++ {
			list = append(list, grown(m, n))
		}
	}
	return list
}

func rightMsgs() []impl.Msg {
	return append(rightRequests(), rightAnswers()...)
}

// wrongMsgs are no messages, nearly all of them for one reason alone.
func wrongMsgs() []impl.Msg {
	get, ok := requestOf("GET", "/", "", "Host", "a.b"), answerOf(200, "OK", "body", "Server", "s")
	list := []impl.Msg{
		{}, {Bare: true}, {Fields: fieldsOf("a", "b")}, {Body: "b"}, {Target: "/"},
		changed(get, func(m *impl.Msg) { m.Status = 200 }), changed(get, func(m *impl.Msg) { m.Status = -1 }), changed(get, func(m *impl.Msg) { m.Reason = "OK" }),
		changed(get, func(m *impl.Msg) { m.Bare = true }), changed(get, func(m *impl.Msg) { m.Target = "" }), changed(get, func(m *impl.Msg) { m.Method = "" }),
		changed(ok, func(m *impl.Msg) { m.Target = "/" }), changed(ok, func(m *impl.Msg) { m.Bare = true }), changed(ok, func(m *impl.Msg) { m.Method = "GET" }),
		changed(bareOf(304, ""), func(m *impl.Msg) { m.Body = "b" }), changed(bareOf(200, ""), func(m *impl.Msg) { m.Body = "\x00" }),
		answerOf(204, "", ""), answerOf(304, "", ""), answerOf(204, "", "b"), answerOf(304, "", "b"),
		grown(requestOf("GET", "/", ""), impl.MaxHead+1), grown(requestOf("GET", "/", "b"), impl.MaxHead+1),
		grown(answerOf(200, "", ""), impl.MaxHead+1), grown(answerOf(200, "", "b"), impl.MaxHead+1), grown(bareOf(304, ""), impl.MaxHead+1),
	}
	for _, method := range []string{" ", "G T", "GET ", " GET", "G\x00", "G\xe4T", "GET:", "G/T", "(GET)", strings.Repeat("M", impl.MaxMethod+1), strings.Repeat("M", impl.MaxText+1)} {
		list = append(list, changed(get, func(m *impl.Msg) { m.Method = method }))
	}
	for _, target := range []string{" ", "/ ", " /", "/ /", "/\t", "/\x7f", "/\x80", "/\xff", "/\r\n", "\x00", strings.Repeat("/", impl.MaxTarget+1), strings.Repeat("/", impl.MaxText+1)} {
		list = append(list, changed(get, func(m *impl.Msg) { m.Target = target }))
	}
	for _, status := range []int{0, 1, -1, 20, 99, 100, 101, 199, 600, 601, 999, 2000, -200, 1 << 40, -1 << 63, 1<<63 - 1} {
		list = append(list, answerOf(status, "OK", ""), bareOf(status, "OK"))
	}
	for _, reason := range []string{"\r\n", "a\nb", "\x00", "\x7f", "a\x1f", strings.Repeat("r", impl.MaxReason+1), strings.Repeat("r", impl.MaxText+1)} {
		list = append(list, answerOf(200, reason, ""), bareOf(304, reason))
	}
	for _, m := range []impl.Msg{get, ok} {
		for _, body := range []string{strings.Repeat("b", impl.MaxBody+1), strings.Repeat("b", impl.MaxMsg+1)} {
			list = append(list, changed(m, func(m *impl.Msg) { m.Body = body }))
		}
	}
	return append(list, wronglyFielded()...)
}

// wronglyFielded are no messages by their fields alone.
func wronglyFielded() []impl.Msg {
	var list []impl.Msg
	for _, m := range []impl.Msg{requestOf("GET", "/", ""), requestOf("POST", "/", "b"), answerOf(200, "", ""), answerOf(200, "", "b"), bareOf(304, "")} {
		for _, name := range []string{"content-length", "Content-Length", "CONTENT-LENGTH", "transfer-encoding", "Transfer-Encoding", "trailer", "Trailer", "tRAILER"} {
			m.Fields = fieldsOf(name, "1")
			list = append(list, m)
			m.Fields = fieldsOf("a", "1", name, "", "b", "2")
			list = append(list, m)
		}
		for _, l := range append(wrongLists(), manyFields(impl.MaxFields), manyFields(impl.MaxFields+1)) {
			m.Fields = l
			list = append(list, m)
		}
	}
	return list
}

func TestRightMessages(t *testing.T) {
	for _, m := range rightMsgs() {
		if !impl.MsgOk(m) || !msgModel(m) {
			t.Errorf("%s is no message", shown(m))
		}
	}
}

func TestWrongMessages(t *testing.T) {
	for _, m := range wrongMsgs() {
		if impl.MsgOk(m) || msgModel(m) {
			t.Errorf("%s is a message", shown(m))
		}
		if head, all := impl.WriteHead(m), impl.WriteMsg(m); head != "" || all != "" {
			t.Errorf("%s is written as %.300q and %.300q", shown(m), head, all)
		}
	}
}

func TestEachByteOfAMessage(t *testing.T) {
	signs := "ABCDEFGHIJKLMNOPQRSTUVWXYZabcdefghijklmnopqrstuvwxyz0123456789!#$%&'*+-.^_|~`"
	for i := 0; i < 256; i++ {
		s := string([]byte{byte(i)})
		for _, text := range []string{s, "a" + s, s + "a", "a" + s + "a"} {
			if got := impl.MsgOk(requestOf(text, "/", "")); got != strings.Contains(signs, s) {
				t.Errorf("the method %q is ok: %v", text, got)
			}
			if got := impl.MsgOk(requestOf("GET", text, "")); got != (i >= 33 && i <= 126) {
				t.Errorf("the target %q is ok: %v", text, got)
			}
			if got := impl.MsgOk(answerOf(200, text, "")); got != plain(i) {
				t.Errorf("the reason %q is ok: %v", text, got)
			}
			if !impl.MsgOk(requestOf("GET", "/", text)) || !impl.MsgOk(answerOf(200, "", text)) {
				t.Errorf("the body %q is refused", text)
			}
		}
	}
}

func TestLengthsOfAMessage(t *testing.T) {
	for n := 0; n <= 650; n++ {
		text := strings.Repeat("a", n)
		for _, c := range []struct {
			what string
			m    impl.Msg
			want bool
		}{
			{"method", requestOf(text, "/", ""), n >= 1 && n <= impl.MaxMethod},
			{"target", requestOf("GET", text, ""), n >= 1 && n <= impl.MaxTarget},
			{"reason", answerOf(200, text, ""), n <= impl.MaxReason},
			{"reason, bare,", bareOf(304, text), n <= impl.MaxReason},
			{"body of a request", requestOf("GET", "/", text), n <= impl.MaxBody},
			{"body of an answer", answerOf(200, "", text), n <= impl.MaxBody},
			{"body of a bare answer", changed(bareOf(304, ""), func(m *impl.Msg) { m.Body = text }), n == 0},
		} {
			if got := impl.MsgOk(c.m); got != c.want {
				t.Errorf("a %s of %d bytes is ok: %v", c.what, n, got)
			}
		}
	}
}

func TestStatusesOfAMessage(t *testing.T) {
	for status := -10; status <= 1100; status++ {
		in, none := status >= 200 && status <= 599, status == 204 || status == 304
		if got := impl.MsgOk(answerOf(status, "", "")); got != (in && !none) {
			t.Errorf("an answer of %d is ok: %v", status, got)
		}
		if got := impl.MsgOk(bareOf(status, "")); got != in {
			t.Errorf("a bare answer of %d is ok: %v", status, got)
		}
		if got := impl.MsgOk(changed(requestOf("GET", "/", ""), func(m *impl.Msg) { m.Status = status })); got != (status == 0) {
			t.Errorf("a request of the status %d is ok: %v", status, got)
		}
	}
}

func TestHowManyFieldsAMessageHas(t *testing.T) {
	for _, m := range []impl.Msg{requestOf("GET", "/", ""), requestOf("GET", "/", "b"), answerOf(200, "", "b"), bareOf(304, "")} {
		for n := 0; n <= impl.MaxFields+2; n++ {
			m.Fields = manyFields(n)
			if got := impl.MsgOk(m); got != (n < impl.MaxFields) {
				t.Errorf("%s is ok: %v", shown(m), got)
			}
		}
	}
}

func TestHowLongAHeadIs(t *testing.T) {
	for _, m := range []impl.Msg{requestOf("GET", "/", ""), requestOf("GET", "/", "b"), requestOf("GET", "/", strings.Repeat("b", 100)), answerOf(200, "", ""), answerOf(200, "OK", "0123456789"), bareOf(304, "")} {
		for n := impl.MaxHead - 400; n <= impl.MaxHead+400; n++ {
			long := grown(m, n)
			if got := impl.MsgOk(long); got != (n <= impl.MaxHead) {
				t.Fatalf("a head of %d bytes is ok: %v, of %s", n, got, shown(m))
			}
			if n <= impl.MaxHead && len(impl.WriteHead(long)) != n {
				t.Fatalf("a head of %d bytes is written in %d", n, len(impl.WriteHead(long)))
			}
		}
	}
}

func TestWriteByHand(t *testing.T) {
	for _, c := range []struct {
		m    impl.Msg
		head string
	}{
		{requestOf("GET", "/", ""), "GET / HTTP/1.1\r\n\r\n"},
		{requestOf("get", "http://a.b/", "", "Host", "a.b", "x", ""), "get http://a.b/ HTTP/1.1\r\nHost: a.b\r\nx: \r\n\r\n"},
		{requestOf("POST", "/p", "abc"), "POST /p HTTP/1.1\r\nContent-Length: 3\r\n\r\n"},
		{requestOf("POST", "/p", "0123456789", "b", "2", "A", "1"), "POST /p HTTP/1.1\r\nb: 2\r\nA: 1\r\nContent-Length: 10\r\n\r\n"},
		{requestOf("POST", "/p", strings.Repeat("b", 600)), "POST /p HTTP/1.1\r\nContent-Length: 600\r\n\r\n"},
		{answerOf(200, "OK", ""), "HTTP/1.1 200 OK\r\nContent-Length: 0\r\n\r\n"},
		{answerOf(200, "", "x"), "HTTP/1.1 200 \r\nContent-Length: 1\r\n\r\n"},
		{answerOf(404, "Not Found", "gone", "A", "b"), "HTTP/1.1 404 Not Found\r\nA: b\r\nContent-Length: 4\r\n\r\n"},
		{bareOf(200, "OK"), "HTTP/1.1 200 OK\r\n\r\n"},
		{bareOf(304, "Not Modified", "Etag", `"a"`), "HTTP/1.1 304 Not Modified\r\nEtag: \"a\"\r\n\r\n"},
	} {
		if head, all := impl.WriteHead(c.m), impl.WriteMsg(c.m); head != c.head || all != c.head+c.m.Body {
			t.Errorf("%s is written as %q and %.200q", shown(c.m), head, all)
		}
	}
	for _, m := range rightMsgs() {
		if head := impl.WriteHead(m); head != headModel(m) || impl.WriteMsg(m) != head+m.Body {
			t.Errorf("%s is written as %.200q", shown(m), head)
		}
	}
}

// readBack reads text as a message of the kind of m.
func readBack(m impl.Msg, text string) (impl.Msg, int) {
	if m.Method != "" {
		return impl.ReadRequest(text)
	}
	return impl.ReadAnswer(text, m.Bare)
}

// Promise 6, its first part.
func TestMessagesComeBack(t *testing.T) {
	list := rightMsgs()
	for _, status := range []int{200, 203, 204, 205, 299, 303, 304, 305, 400, 599} {
		list = append(list, bareOf(status, "r"))
		if status != 204 && status != 304 {
			list = append(list, answerOf(status, "r", ""), answerOf(status, "r", "b"))
		}
	}
	for n := 0; n <= impl.MaxBody; n++ {
		list = append(list, requestOf("POST", "/", mixedBytes(n, 6)), answerOf(200, "OK", mixedBytes(n, 7), "a", "b"))
	}
	for n := 0; n < impl.MaxFields; n++ {
		for _, m := range []impl.Msg{requestOf("GET", "/", ""), requestOf("GET", "/", "b"), answerOf(200, "", "b"), bareOf(200, "")} {
			m.Fields = manyFields(n)
			list = append(list, m)
		}
	}
	eachText("a \t\xff", 4, func(reason string) { list = append(list, answerOf(200, reason, "b"), bareOf(204, reason)) })
	for _, m := range list {
		text := impl.WriteMsg(m)
		if text == "" {
			t.Fatalf("%s is not written", shown(m))
		}
		if back, code := readBack(m, text); code != impl.MsOk || !sameMsg(back, m) {
			t.Fatalf("%s came back as %s %d", shown(m), shown(back), code)
		}
		head, at, code := impl.ReadHead(text, m.Method == "")
		if code != impl.MsOk || at != len(impl.WriteHead(m)) || head.Method != m.Method || head.Target != m.Target || head.Status != m.Status || head.Reason != m.Reason || head.Bare || head.Body != "" {
			t.Fatalf("the head of %s came back as %s %d %d", shown(m), shown(head), at, code)
		}
		if !slices.Equal(impl.Without(head.Fields, "content-length"), m.Fields) {
			t.Fatalf("the fields of %s came back as %.300q", shown(m), head.Fields)
		}
	}
}

// A bare answer of another status can't be told from its bytes: who reads it must know what was asked.
func TestBareAnswersAreReadAsSuch(t *testing.T) {
	checkAnswer(t, headLines("HTTP/1.1 200 OK", "A: b"), true, bareOf(200, "OK", "A", "b"), impl.MsOk)
	checkAnswer(t, headLines("HTTP/1.1 200 OK", "A: b"), false, answerOf(200, "OK", "", "A", "b"), impl.MsOk)
	for _, head := range []bool{false, true} {
		checkAnswer(t, headLines("HTTP/1.1 204 N"), head, bareOf(204, "N"), impl.MsOk)
		checkAnswer(t, headLines("HTTP/1.1 304 N", "content-length: 5"), head, bareOf(304, "N"), impl.MsOk)
		checkAnswer(t, headLines("HTTP/1.1 304 N", "Transfer-Encoding: chunked"), head, bareOf(304, "N"), impl.MsOk)
		checkNoAnswer(t, headLines("HTTP/1.1 304 N", "Content-Length: 1")+"x", head, impl.MsBad)
		checkNoAnswer(t, headLines("HTTP/1.1 204 N", "Transfer-Encoding: chunked")+"0\r\n\r\n", head, impl.MsBad)
		checkNoAnswer(t, headLines("HTTP/1.1 204 N")+"x", head, impl.MsBad)
		checkNoAnswer(t, headLines("HTTP/1.1 304 N", "Content-Length: 1", "Transfer-Encoding: chunked"), head, impl.MsBad)
		checkNoAnswer(t, headLines("HTTP/1.1 304 N", "Content-Length: 1, 2"), head, impl.MsBad)
		checkAnswer(t, headLines("HTTP/1.1 304 N", "Content-Length: 601"), head, bareOf(304, "N"), impl.MsOk)
	}
	checkAnswer(t, headLines("HTTP/1.1 200 OK", "Content-Length: 5"), true, bareOf(200, "OK"), impl.MsOk)
	checkNoAnswer(t, headLines("HTTP/1.1 200 OK", "Content-Length: 5")+"abcde", true, impl.MsBad)
	checkNoAnswer(t, headLines("HTTP/1.1 200 OK", "Content-Length: 5"), false, impl.MsBad)
	checkNoAnswer(t, headLines("HTTP/1.1 200 OK")+"rest", true, impl.MsBad)
}

// requestTexts are bytes of requests that are taken, in forms that WriteMsg does not give too.
func requestTexts() []string {
	var list []string
	for _, m := range rightRequests() {
		list = append(list, headModel(m)+m.Body)
	}
	chunked := "POST /c HTTP/1.1\r\nhost:a\r\nTRANSFER-encoding:\tchunkeD \r\n\r\n"
	return append(list,
		chunked+"0\r\n\r\n", chunked+"3\r\nabc\r\n0\r\n\r\n", chunked+"1\r\n0\r\n2;x\r\n\r\n\r\n000\r\nA: b\r\nC:\r\n\r\n", chunked+"5\r\n0\r\n\r\n\r\n0;\r\n\r\n",
		headLines("POST / HTTP/1.1", "Content-Length: 0"), headLines("POST / HTTP/1.1", "content-length: 2 , 2", "Content-Length:,2,")+"\r\n",
		headLines("POST / HTTP/1.1", "Content-Length: 4", "Trailer: a")+"\r\n\r\n", headLines("POST / HTTP/1.1", "A:b", "A:  b", "a:"),
		headLines("POST / HTTP/1.1", "Content-Length: 1", "A: b", "Content-Length: 1")+"0",
	)
}

// Promise 6, its second part.
func TestNoBeginningOfARequestIsOne(t *testing.T) {
	for _, text := range requestTexts() {
		if m, code := impl.ReadRequest(text); code != impl.MsOk || !impl.MsgOk(m) {
			t.Fatalf("ReadRequest(%q) is %s %d", text, shown(m), code)
		}
		for n := range len(text) {
			if m, code := impl.ReadRequest(text[:n]); code != impl.MsBad || !sameMsg(m, impl.Msg{}) {
				t.Fatalf("the first %d bytes of %q are read as %s %d", n, text, shown(m), code)
			}
		}
		for _, more := range []string{"\r", "\n", "\r\n", "\r\n\r\n", "0", "0\r\n\r\n", "GET / HTTP/1.1\r\n\r\n", "\x00", " "} {
			if m, code := impl.ReadRequest(text + more); code != impl.MsBad || !sameMsg(m, impl.Msg{}) {
				t.Fatalf("with %q behind it, %q is read as %s %d", more, text, shown(m), code)
			}
		}
	}
}

// What is taken is a message, and comes back the same from its own bytes.
func TestWhatIsTakenHasOneForm(t *testing.T) {
	for _, text := range requestTexts() {
		m, _ := impl.ReadRequest(text)
		own := impl.WriteMsg(m)
		if again, code := impl.ReadRequest(own); code != impl.MsOk || !sameMsg(again, m) || impl.WriteMsg(again) != own {
			t.Errorf("%q becomes %s", own, shown(again))
		}
	}
}

func TestReadHeadByHand(t *testing.T) {
	for _, c := range []struct {
		b      string
		answer bool
		want   impl.Msg
		at     int
	}{
		{"GET / HTTP/1.1\r\n\r\n", false, requestOf("GET", "/", ""), 18},
		{"GET / HTTP/1.1\r\n\r\nxyz", false, requestOf("GET", "/", ""), 18},
		{"GET / HTTP/1.1\r\n\r\n\r\n\r\n", false, requestOf("GET", "/", ""), 18},
		{"GET / HTTP/1.1\r\n\r\n\n\r", false, requestOf("GET", "/", ""), 18},
		{"a! ! HTTP/1.1\r\nA:b\r\na: \t \r\nB: c:d \r\n\r\n", false, requestOf("a!", "!", "", "A", "b", "a", "", "B", "c:d"), 38},
		{"P * HTTP/1.1\r\nContent-Length: x\r\nTransfer-Encoding: y\r\nTrailer: z\r\n\r\n", false, requestOf("P", "*", "", "Content-Length", "x", "Transfer-Encoding", "y", "Trailer", "z"), 69},
		{"HTTP/1.1 200 OK\r\n\r\n", true, answerOf(200, "OK", ""), 19},
		{"HTTP/1.1 200 \r\n\r\nbody", true, answerOf(200, "", ""), 17},
		{"HTTP/1.1 200  two \r\nA: b\r\n\r\n", true, answerOf(200, " two ", "", "A", "b"), 28},
		{"HTTP/1.1 204 \r\n\r\n", true, answerOf(204, "", ""), 17},
		{"HTTP/1.1 304 a b c\r\n\r\n", true, answerOf(304, "a b c", ""), 22},
		{"HTTP/1.1 599 \xff\t\x80\r\n\r\n", true, answerOf(599, "\xff\t\x80", ""), 20},
		{"HTTP/1.1 200 HTTP/1.1\r\n\r\n", true, answerOf(200, "HTTP/1.1", ""), 25},
	} {
		checkHead(t, c.b, c.answer, c.want, c.at, impl.MsOk)
		checkNoHead(t, c.b, !c.answer, impl.MsBad)
	}
	checkHead(t, "HTTP HTTP/1.1 HTTP/1.1\r\n\r\n", false, requestOf("HTTP", "HTTP/1.1", ""), 26, impl.MsOk)
}

func TestFirstLinesOfRequests(t *testing.T) {
	for _, line := range []string{
		"", " ", "GET", "GET /", "GET / ", "GET /  ", " GET / HTTP/1.1", "GET  / HTTP/1.1", "GET /  HTTP/1.1", "GET / HTTP/1.1 ", "GET / / HTTP/1.1", "GET\t/\tHTTP/1.1", "GET /\tHTTP/1.1",
		"GET / HTTP/1.0", "GET / HTTP/1.", "GET / HTTP/1.10", "GET / HTTP/2", "GET / HTTP/2.0", "GET / http/1.1", "GET / Http/1.1", "GET / HTTP/11", "GET / HTTP/1,1", "GET / HTTPS/1.1", "GET / XHTTP/1.1", "GET / ",
		" / HTTP/1.1", "/ HTTP/1.1", "GET HTTP/1.1", "GET  HTTP/1.1", "G(T / HTTP/1.1", "G:T / HTTP/1.1", "G\xe4T / HTTP/1.1", "G\x00T / HTTP/1.1", "GET /\x7f HTTP/1.1", "GET /\x80 HTTP/1.1", "GET /\x00 HTTP/1.1",
		"HTTP/1.1 200 OK", "HTTP/1.1 200 HTTP/1.1", "A: b", strings.Repeat("M", impl.MaxMethod+1) + " / HTTP/1.1", "GET " + strings.Repeat("/", impl.MaxTarget+1) + " HTTP/1.1", strings.Repeat("x", impl.MaxLine),
	} {
		for _, text := range []string{headLines(line), headLines(line, "A: b"), headLines(line, "A: b") + "x"} {
			checkNoHead(t, text, false, impl.MsBad)
			checkNoRequest(t, text, impl.MsBad)
		}
	}
	for n := range 30 {
		text := headLines(strings.Repeat("M", n) + " / HTTP/1.1")
		checkReaders(t, text)
		if _, code := impl.ReadRequest(text); (code == impl.MsOk) != (n >= 1 && n <= impl.MaxMethod) {
			t.Errorf("a method of %d bytes has the code %d", n, code)
		}
	}
	for n := range 240 {
		text := headLines("GET " + strings.Repeat("/", n) + " HTTP/1.1")
		checkReaders(t, text)
		if _, code := impl.ReadRequest(text); (code == impl.MsOk) != (n >= 1 && n <= impl.MaxTarget) {
			t.Errorf("a target of %d bytes has the code %d", n, code)
		}
	}
}

func TestFirstLinesOfAnswers(t *testing.T) {
	for _, line := range []string{
		"", " ", "HTTP/1.1", "HTTP/1.1 ", "HTTP/1.1 200", "HTTP/1.1  200 OK", "HTTP/1.1 200\tOK", "HTTP/1.1\t200 OK", " HTTP/1.1 200 OK", "HTTP/1.1200 OK", "HTTP/1.1 200OK", "200 OK",
		"HTTP/1.0 200 OK", "HTTP/2 200 OK", "http/1.1 200 OK", "HTTP/1.10 200 OK", "HTTP/1.1. 200 OK", "ICY 200 OK", "XHTTP/1.1 200 OK",
		"HTTP/1.1 20 OK", "HTTP/1.1 2 OK", "HTTP/1.1 2000 OK", "HTTP/1.1 0200 OK", "HTTP/1.1 00200 OK", "HTTP/1.1 +200 OK", "HTTP/1.1 -200 OK", "HTTP/1.1 2e2 OK", "HTTP/1.1 20a OK", "HTTP/1.1 0x2 OK", "HTTP/1.1 \xb2\xb2\xb2 OK",
		"HTTP/1.1 000 OK", "HTTP/1.1 099 OK", "HTTP/1.1 100 C", "HTTP/1.1 101 S", "HTTP/1.1 199 OK", "HTTP/1.1 600 OK", "HTTP/1.1 999 OK", "HTTP/1.1 020 OK", "HTTP/1.1 1000000000000200 OK", "HTTP/1.1 OK 200",
		"HTTP/1.1 200 a\x00b", "HTTP/1.1 200 \x7f", "HTTP/1.1 200 a\x1b", "HTTP/1.1 200 " + strings.Repeat("r", impl.MaxReason+1), "GET / HTTP/1.1", "A: b", strings.Repeat("x", impl.MaxLine),
	} {
		for _, text := range []string{headLines(line), headLines(line, "A: b"), headLines(line, "A: b") + "x"} {
			checkNoHead(t, text, true, impl.MsBad)
			checkNoAnswer(t, text, false, impl.MsBad)
			checkNoAnswer(t, text, true, impl.MsBad)
		}
	}
	for status := range 1300 {
		for _, form := range []string{"%d", "%03d"} {
			written := fmt.Sprintf(form, status)
			_, _, code := impl.ReadHead(headLines("HTTP/1.1 "+written+" r"), true)
			if (code == impl.MsOk) != (status >= 200 && status <= 599) {
				t.Errorf("the status %s has the code %d", written, code)
			}
		}
	}
	for n := range 60 {
		_, _, code := impl.ReadHead(headLines("HTTP/1.1 200 "+strings.Repeat("\xe4", n)), true)
		if (code == impl.MsOk) != (n <= impl.MaxReason) {
			t.Errorf("a reason of %d bytes has the code %d", n, code)
		}
	}
}

func TestWrongLinesOfAHead(t *testing.T) {
	for _, first := range []string{"GET / HTTP/1.1\r\n", "HTTP/1.1 200 OK\r\n"} {
		answer := first[0] == 'H'
		for _, rest := range []string{
			"", "\r", "\n", "\n\n", "\r\r\n", "A: b", "A: b\r", "A: b\n", "A: b\r\n", "A: b\r\n\r", "A: b\r\n\n", "A: b\n\r\n", "A: b\n\n", "A: b\r\r\n\r\n", "A: b\rC: d\r\n\r\n", "A: b\n C\r\n\r\n",
			"A\r\n\r\n", "A : b\r\n\r\n", "A b: c\r\n\r\n", ": b\r\n\r\n", " A: b\r\n\r\n", "\tA: b\r\n\r\n", "A: b\r\n c\r\n\r\n", "A: b\x00\r\n\r\n", "A\xe4: b\r\n\r\n", " \r\n\r\n", "\t\r\n\r\n",
			strings.Repeat("n", impl.MaxName+1) + ": v\r\n\r\n", "n: " + strings.Repeat("v", impl.MaxValue+1) + "\r\n\r\n", "GET / HTTP/1.1\r\n\r\n", "HTTP/1.1 200 OK\r\n\r\n",
		} {
			checkNoHead(t, first+rest, answer, impl.MsBad)
			checkReaders(t, first+rest)
		}
		bare := strings.TrimSuffix(first, "\r\n")
		for _, text := range []string{"", bare, bare + "\r", bare + "\n", bare + "\n\r\n", bare + "\n\n", bare + "\r\r\n\r\n", bare + "\r \n\r\n", "\r\n" + first + "\r\n", "\n" + first + "\r\n", " " + first + "\r\n"} {
			checkNoHead(t, text, answer, impl.MsBad)
			checkReaders(t, text)
		}
	}
}

// firstLines are right ones, of a request and of an answer.
func firstLines() map[bool]string {
	return map[bool]string{false: "GET / HTTP/1.1", true: "HTTP/1.1 200 OK"}
}

func TestHowLongALineIs(t *testing.T) {
	for answer, first := range firstLines() {
		for n := impl.MaxLine - 3; n <= impl.MaxLine+3; n++ {
			code := impl.MsOk
			if n > impl.MaxLine {
				code = impl.MsFields
			}
			line := "A:" + strings.Repeat(" ", n-3) + "b"
			text := headLines(first, line)
			want, _ := firstLineModel(first, answer)
			if code == impl.MsOk {
				want.Fields = fieldsOf("A", "b")
				checkHead(t, text, answer, want, len(text), code)
			} else {
				checkNoHead(t, text, answer, code)
			}
			checkReaders(t, text)
			checkReaders(t, headLines(first, line, "C: d")+"x")
			// A line is too long whatever stands in it, but must have an end.
			for _, wrong := range []string{strings.Repeat("x", n), strings.Repeat(" ", n), strings.Repeat("\x00", n)} {
				checkNoHead(t, headLines(first, wrong), answer, max(code, impl.MsBad))
				checkNoHead(t, headLines(wrong), answer, max(code, impl.MsBad))
				checkNoHead(t, first+"\r\n"+wrong, answer, impl.MsBad)
				checkNoHead(t, first+"\r\n"+wrong+"\n\r\n", answer, impl.MsBad)
				checkNoHead(t, wrong+"\r", answer, impl.MsBad)
			}
		}
	}
}

func TestHowLongAHeadMayBeRead(t *testing.T) {
	for _, m := range []impl.Msg{requestOf("GET", "/", ""), bareOf(200, "OK")} {
		answer := m.Method == ""
		for n := impl.MaxHead - 210; n <= impl.MaxHead+210; n++ {
			long := grown(m, n)
			text := headModel(long)
			if len(text) != n {
				t.Fatalf("a head of %d bytes has %d", n, len(text))
			}
			if n <= impl.MaxHead {
				checkHead(t, text, answer, changed(long, func(m *impl.Msg) { m.Bare = false }), n, impl.MsOk)
			} else {
				checkNoHead(t, text, answer, impl.MsFields)
			}
			checkReaders(t, text)
			checkReaders(t, text+"x")
		}
	}
}

// A head that is within its bounds as it is read may be too long as it is written: with the blanks that are put in, and with a length.
func TestHeadsThatWouldBeTooLong(t *testing.T) {
	for n := impl.MaxHead - 60; n <= impl.MaxHead; n++ {
		m := grown(requestOf("POST", "/", ""), n)
		text := headModel(m)
		checkRequest(t, text, m, impl.MsOk)
		checkRequest(t, strings.ReplaceAll(text, "F: ", "F:"), m, impl.MsOk)
		rest := grown(bareOf(200, "OK"), n)
		text = headModel(rest)
		checkAnswer(t, text, true, rest, impl.MsOk)
		rest.Bare = false
		for _, body := range []string{"", "b", "0123456789", strings.Repeat("b", 600)} {
			rest.Body = body
			if n+len("Content-Length: \r\n")+len(strconv.Itoa(len(body))) <= impl.MaxHead {
				checkAnswer(t, text+body, false, rest, impl.MsOk)
			} else {
				checkNoAnswer(t, text+body, false, impl.MsFields)
			}
		}
		checkNoAnswer(t, text+strings.Repeat("b", 601), false, impl.MsLarge)
	}
	// As it is read, the head has MaxHead bytes; as it is written, one more.
	m := grown(requestOf("GET", "/", ""), impl.MaxHead+1)
	text := strings.Replace(headModel(m), "F: ", "F:", 1)
	checkNoRequest(t, text, impl.MsFields)
	checkNoRequest(t, text+"x", impl.MsBad)
	if _, at, code := impl.ReadHead(text, false); at != impl.MaxHead || code != impl.MsOk {
		t.Errorf("a head of %d bytes is read as %d %d", len(text), at, code)
	}
}

func TestHowManyFieldsAreRead(t *testing.T) {
	for answer, first := range firstLines() {
		for n := impl.MaxFields - 2; n <= impl.MaxFields+2; n++ {
			m, _ := firstLineModel(first, answer)
			m.Fields = manyFields(n)
			m.Bare = answer
			text := headModel(m)
			m.Bare = false
			if n <= impl.MaxFields {
				checkHead(t, text, answer, m, len(text), impl.MsOk)
			} else {
				checkNoHead(t, text, answer, impl.MsFields)
			}
			checkReaders(t, text)
			checkReaders(t, text+"x")
			// The one too many is refused as such whatever it is, if it is a line.
			cut := strings.TrimSuffix(text, "\r\n")
			for _, line := range []string{"A: b\r\n\r\n", "no field\r\n\r\n", "A : b\r\n\r\n", " \r\n\r\n", "A: b\r\n", "A: b\n\r\n", "A: b", strings.Repeat("x", 301) + "\r\n\r\n"} {
				checkReaders(t, cut+line)
			}
		}
		full, _ := firstLineModel(first, answer)
		full.Fields, full.Bare = manyFields(impl.MaxFields), true
		cut := strings.TrimSuffix(headModel(full), "\r\n")
		checkNoHead(t, cut+"no field\r\n\r\n", answer, impl.MsFields)
		checkNoHead(t, cut+"no field\n\r\n", answer, impl.MsBad)
		checkNoHead(t, cut+"A: b", answer, impl.MsBad)
	}
}

// MaxFields fields are a message if one of them is left out.
func TestFullHeadsOfWholeMessages(t *testing.T) {
	m := requestOf("GET", "/", "")
	m.Fields = manyFields(impl.MaxFields)
	checkNoRequest(t, headModel(m), impl.MsFields)
	checkNoRequest(t, headModel(m)+"x", impl.MsBad)
	for _, f := range fieldsOf("Trailer", "x", "content-length", "0", "TRAILER", "") {
		for _, at := range []int{0, 7, impl.MaxFields - 1} {
			some := slices.Insert(manyFields(impl.MaxFields-1), at, f)
			text := headModel(impl.Msg{Method: "GET", Target: "/", Fields: some})
			checkRequest(t, text, impl.Msg{Method: "GET", Target: "/", Fields: manyFields(impl.MaxFields - 1)}, impl.MsOk)
		}
	}
	chunked := impl.Msg{Method: "GET", Target: "/", Fields: append(manyFields(impl.MaxFields-1), fieldsOf("Transfer-Encoding", "chunked")...)}
	checkRequest(t, headModel(chunked)+"1\r\nx\r\n0\r\n\r\n", impl.Msg{Method: "GET", Target: "/", Fields: manyFields(impl.MaxFields - 1), Body: "x"}, impl.MsOk)
	rest := impl.Msg{Status: 200, Bare: true, Fields: manyFields(impl.MaxFields)}
	checkNoAnswer(t, headModel(rest), true, impl.MsFields)
	checkNoAnswer(t, headModel(rest)+"rest", false, impl.MsFields)
	checkNoAnswer(t, headModel(rest)+"rest", true, impl.MsBad)
}

// paddedChunks is a text of n bytes that are chunks of one byte each, the room filled up behind a ; in their lines.
func paddedChunks(n int) (text, body string) {
	const end = "0\r\n\r\n"
	const least = len("1;\r\nx\r\n")
	for left := n - len(end); left > 0; left = n - len(end) - len(text) {
		take := min(left, least+200)
		if left != take && left-take < least {
			take -= least
		}
		text += "1;" + strings.Repeat("p", take-least) + "\r\nx\r\n"
		body += "x"
	}
	return text + end, body
}

func TestHowLongATextIs(t *testing.T) {
	head := headLines("POST / HTTP/1.1", "Transfer-Encoding: chunked")
	answerHead := headLines("HTTP/1.1 200 OK", "Transfer-Encoding: chunked")
	for n := impl.MaxMsg - 30; n <= impl.MaxMsg+30; n++ {
		rest, body := paddedChunks(n - len(head))
		if n <= impl.MaxMsg {
			checkRequest(t, head+rest, requestOf("POST", "/", body), impl.MsOk)
		} else {
			checkNoRequest(t, head+rest, impl.MsLarge)
		}
		rest, body = paddedChunks(n - len(answerHead))
		if n <= impl.MaxMsg {
			checkAnswer(t, answerHead+rest, false, answerOf(200, "OK", body), impl.MsOk)
		} else {
			checkNoAnswer(t, answerHead+rest, false, impl.MsLarge)
			checkNoAnswer(t, answerHead+rest, true, impl.MsLarge)
		}
		get := headLines("GET / HTTP/1.1")
		text := get + strings.Repeat("x", n-len(get))
		if n <= impl.MaxMsg {
			checkHead(t, text, false, requestOf("GET", "/", ""), len(get), impl.MsOk)
		} else {
			checkNoHead(t, text, false, impl.MsLarge)
		}
		// Ahead of all other faults.
		for _, wrong := range []string{"\x00", "\n", "x", " ", "\r\n"} {
			code := impl.MsBad
			if n > impl.MaxMsg {
				code = impl.MsLarge
			}
			text := strings.Repeat(wrong, n)[:n]
			checkNoRequest(t, text, code)
			checkNoAnswer(t, text, false, code)
			checkNoHead(t, text, false, code)
			checkNoHead(t, text, true, code)
		}
	}
}

// Where two faults meet, the one that is looked at first has its code.
func TestWhichFaultCounts(t *testing.T) {
	long, line := strings.Repeat("x", 301), "A: b\r\n"
	get := "GET / HTTP/1.1\r\n"
	full := get + strings.Repeat(line, 20)
	heavy := headModel(grown(requestOf("GET", "/", ""), 1490))
	heavy = strings.TrimSuffix(heavy, "\r\n")
	for _, c := range []struct {
		what, b string
		code    int
	}{
		{"too large a text, no line", strings.Repeat("x", 4001), 413},
		{"too large a text, too long a line", headLines(strings.Repeat("x", 4001)), 413},
		{"too long a first line, which is wrong", long + "\r\n\r\n", 431},
		{"too long a first line, which has no end", long, 400},
		{"too long a first line, which has a wrong end", long + "\n\r\n", 400},
		{"a wrong first line, then too long a one", "GET\r\n" + long + "\r\n\r\n", 400},
		{"too long a line, then a wrong one", get + long + "\r\nA\r\n\r\n", 431},
		{"a wrong line, then too long a one", get + "A\r\n" + long + "\r\n\r\n", 400},
		{"too long a line, then no end", get + long + "\r\nA", 431},
		{"one too many, which is no field", full + "A\r\n\r\n", 431},
		{"one too many, which has no end", full + "A: b", 400},
		{"one too many, then no end", full + line + "A", 431},
		{"one too many, which is too long", full + long + "\r\n\r\n", 431},
		{"too long a head, no field", heavy + "no field at\r\n\r\n", 431},
		{"too long a head, no end of its line", heavy + "no field at all", 400},
		{"no field in a head that would be too long", heavy + "no\r\n" + line + line, 400},
		{"too long a head by its last line alone", heavy + "A: bcdefg\r\n\r\n", 431},
		{"a head of just MaxHead bytes", heavy + "A: bcdef\r\n\r\n", 0},
		{"a head of just MaxHead bytes up to a field", heavy + "A: bcdefgh\r\n", 400},
		{"a wrong field, bad framing", headLines("GET / HTTP/1.1", "Content-Length: x", "A"), 400},
		{"bad framing, too large a length", headLines("GET / HTTP/1.1", "Content-Length: 601, 602"), 400},
		{"too large a length, too few bytes", headLines("GET / HTTP/1.1", "Content-Length: 601"), 413},
		{"too large a length, just so many bytes", headLines("GET / HTTP/1.1", "Content-Length: 601") + strings.Repeat("b", 601), 413},
		{"a length, too few bytes, a full head", full + "\r\n" + "x", 400},
		{"a length, a full head that is too long then", strings.Replace(full, "A: b", "Content-Length: 1", 1) + "A: b\r\n\r\nx", 431},
		{"chunks, then a wrong one that is too large", headLines("GET / HTTP/1.1", "Transfer-Encoding: chunked") + "259\r\n", 413},
		{"chunks, a wrong size ahead of all", headLines("GET / HTTP/1.1", "Transfer-Encoding: chunked") + "2g9\r\n", 400},
		{"bytes behind the head, a full head", full + "\r\n0", 400},
	} {
		m, code := impl.ReadRequest(c.b)
		if code != c.code || code != impl.MsOk && !sameMsg(m, impl.Msg{}) {
			t.Errorf("%s: the code is %d, the message %s", c.what, code, shown(m))
		}
		checkReaders(t, c.b)
	}
}

func TestFramingByHand(t *testing.T) {
	for _, c := range []struct {
		l             []impl.Field
		request, size int
		answer, bare  int
	}{
		{nil, impl.FrNone, 0, impl.FrRest, impl.FrNone}, {fieldsOf("Host", "a", "Trailer", "b"), impl.FrNone, 0, impl.FrRest, impl.FrNone},
		{fieldsOf("Content-Length", "5"), impl.FrLength, 5, impl.FrLength, impl.FrNone}, {fieldsOf("CONTENT-length", "0"), impl.FrLength, 0, impl.FrLength, impl.FrNone},
		{fieldsOf("content-length", "999999999999999"), impl.FrLength, impl.MaxNum, impl.FrLength, impl.FrNone}, {fieldsOf("content-length", "601"), impl.FrLength, 601, impl.FrLength, impl.FrNone},
		{fieldsOf("content-length", "5, 5"), impl.FrLength, 5, impl.FrLength, impl.FrNone}, {fieldsOf("content-length", ",5,,5,"), impl.FrLength, 5, impl.FrLength, impl.FrNone},
		{fieldsOf("content-length", "5", "a", "b", "Content-Length", "5,\t5"), impl.FrLength, 5, impl.FrLength, impl.FrNone}, {fieldsOf("content-length", "", "content-length", "7"), impl.FrLength, 7, impl.FrLength, impl.FrNone},
		{fieldsOf("Transfer-Encoding", "chunked"), impl.FrChunked, 0, impl.FrChunked, impl.FrNone}, {fieldsOf("transfer-encodinG", "CHUNKED"), impl.FrChunked, 0, impl.FrChunked, impl.FrNone},
		{fieldsOf("transfer-encoding", ", Chunked ,"), impl.FrChunked, 0, impl.FrChunked, impl.FrNone}, {fieldsOf("transfer-encoding", "", "transfer-encoding", "chunked"), impl.FrChunked, 0, impl.FrChunked, impl.FrNone},
		{fieldsOf("Content-Lengths", "x", "Transfer-Encodings", "y", "X-Content-Length", "1"), impl.FrNone, 0, impl.FrRest, impl.FrNone},
	} {
		for bare, kind := range map[bool]int{false: c.request, true: c.bare} {
			checkFraming(t, c.l, false, bare, kind, c.size)
		}
		for bare, kind := range map[bool]int{false: c.answer, true: c.bare} {
			checkFraming(t, c.l, true, bare, kind, c.size)
		}
	}
}

// checkFraming asks for that size if the kind is FrLength, else for none.
func checkFraming(t *testing.T, l []impl.Field, answer, bare bool, wantKind, size int) {
	t.Helper()
	if wantKind != impl.FrLength {
		size = 0
	}
	if kind, got := impl.Framing(l, answer, bare); kind != wantKind || got != size {
		t.Errorf("Framing(%.200q, %v, %v) is %d %d, not %d %d", l, answer, bare, kind, got, wantKind, size)
	}
}

// badFramings are lists that bound no body, whoever asks.
func badFramings() [][]impl.Field {
	var list [][]impl.Field
	for _, value := range []string{
		"", ",", " , ,", "x", "-1", "+1", "01", "00", "1.0", "1e1", "0x1", "1 1", "1;1", "\"1\"", "\"1, 1\"", "1, 2", "1, 01", "1, x", "x, 1", "x, x", "1, 1, 2", "2, 1, 1", "1,\"\"", "1000000000000000", "99999999999999999999", "18446744073709551617", "\xb2", "chunked", "1, 1\t1",
	} {
		list = append(list, fieldsOf("Content-Length", value))
	}
	for _, value := range []string{"", ",", "gzip", "identity", "chunked, chunked", "gzip, chunked", "chunked, gzip", "chunked;a=b", "\"chunked\"", "chunke", "chunkedd", "chunked chunked", "chun\u212aed", "x-chunked", "chunked, \"\"", "chunked, ;"} {
		list = append(list, fieldsOf("Transfer-Encoding", value))
	}
	return append(list,
		fieldsOf("content-length", "1", "Content-Length", "2"), fieldsOf("content-length", "1", "a", "b", "content-length", "x"), fieldsOf("content-length", "\"1", "content-length", "1\""),
		fieldsOf("content-length", "1", "content-length", "1", "content-length", "1, 01"),
		fieldsOf("transfer-encoding", "chunked", "Transfer-Encoding", "chunked"), fieldsOf("transfer-encoding", "chunked", "transfer-encoding", "gzip"), fieldsOf("transfer-encoding", "\"chunked", "transfer-encoding", "\""),
		fieldsOf("transfer-encoding", "chunked", "content-length", "1"), fieldsOf("Content-Length", "1", "Transfer-Encoding", "chunked"), fieldsOf("content-length", "0", "transfer-encoding", "chunked"),
		fieldsOf("content-length", "", "transfer-encoding", "chunked"), fieldsOf("content-length", "1", "transfer-encoding", ""), fieldsOf("content-length", "1", "transfer-encoding", "identity"), fieldsOf("content-length", "", "transfer-encoding", ""),
	)
}

func TestFramingRefuses(t *testing.T) {
	for _, l := range append(badFramings(), wrongLists()...) {
		for _, answer := range []bool{false, true} {
			for _, bare := range []bool{false, true} {
				checkFraming(t, l, answer, bare, impl.FrBad, 0)
			}
		}
	}
	for _, l := range badFramings() {
		for _, rest := range []string{"", "x", "0\r\n\r\n", "1\r\nx\r\n0\r\n\r\n"} {
			checkNoRequest(t, headModel(impl.Msg{Method: "POST", Target: "/", Fields: l})+rest, impl.MsBad)
			for _, status := range []int{200, 204, 304} {
				text := headModel(impl.Msg{Status: status, Bare: true, Fields: l}) + rest
				checkNoAnswer(t, text, false, impl.MsBad)
				checkNoAnswer(t, text, true, impl.MsBad)
			}
		}
	}
}

func TestFramingOfEachShortList(t *testing.T) {
	kinds := fieldsOf("a", "1", "Content-Length", "1", "content-length", "1, 1", "CONTENT-LENGTH", "2", "Content-Length", ",", "content-Length", "01",
		"Transfer-Encoding", "chunked", "transfer-encoding", "CHUNKED,", "transfer-encoding", "gzip", "Transfer-encoding", "", "Trailer", "x")
	eachList(kinds, 4, func(l []impl.Field) {
		for _, answer := range []bool{false, true} {
			for _, bare := range []bool{false, true} {
				want, wantSize := framingModel(l, answer, bare)
				if kind, size := impl.Framing(l, answer, bare); kind != want || size != wantSize {
					t.Fatalf("Framing(%q, %v, %v) is %d %d, not %d %d", l, answer, bare, kind, size, want, wantSize)
				}
			}
		}
	})
}

// Promise 7: whatever the order, the letters and the bytes behind the head, such a request is never taken.
func TestUnlikeLengthsAreNeverTaken(t *testing.T) {
	kinds := fieldsOf("A", "b", "Content-Length", "1", "content-length", "5", "CONTENT-LENGTH", "5, 5", "Transfer-Encoding", "chunked", "TRANSFER-ENCODING", "Chunked", "Trailer", "x")
	refused := 0
	eachList(kinds, 4, func(l []impl.Field) {
		lengths, long := pieces(l, "content-length")
		_, encoded := pieces(l, "transfer-encoding")
		slices.Sort(lengths)
		if !(long && encoded) && len(slices.Compact(lengths)) < 2 {
			return
		}
		refused++
		head := headModel(impl.Msg{Method: "POST", Target: "/", Fields: l})
		for _, rest := range []string{"", "x", "xxxxx", "0\r\n\r\n", "1\r\nx\r\n0\r\n\r\n", "00000\r\n\r\n"} {
			if m, code := impl.ReadRequest(head + rest); code != impl.MsBad || !sameMsg(m, impl.Msg{}) {
				t.Fatalf("%q is read as %s %d", head+rest, shown(m), code)
			}
		}
	})
	if refused < 1000 {
		t.Fatalf("just %d lists were tried", refused)
	}
}

func TestLengthsThatAreTheSame(t *testing.T) {
	for _, head := range []string{
		headLines("POST / HTTP/1.1", "Content-Length: 3"), headLines("POST / HTTP/1.1", "Content-Length: 3, 3"), headLines("POST / HTTP/1.1", "Content-Length: 3", "content-length: 3"),
		headLines("POST / HTTP/1.1", "content-length:3,,3 ,3", "CONTENT-LENGTH:", "Content-Length:3"),
	} {
		checkRequest(t, head+"abc", requestOf("POST", "/", "abc"), impl.MsOk)
		checkNoRequest(t, head+"ab", impl.MsBad)
		checkNoRequest(t, head+"abcd", impl.MsBad)
		checkNoRequest(t, head, impl.MsBad)
		text := strings.Replace(head, "POST / HTTP/1.1", "HTTP/1.1 200 OK", 1)
		checkAnswer(t, text+"abc", false, answerOf(200, "OK", "abc"), impl.MsOk)
		checkNoAnswer(t, text+"ab", false, impl.MsBad)
		checkNoAnswer(t, text+"abcd", false, impl.MsBad)
	}
}

func TestBodiesByTheirLength(t *testing.T) {
	for n := 0; n <= impl.MaxBody+3; n++ {
		length := fmt.Sprintf("Content-Length: %d", n)
		head, answerHead, body := headLines("POST / HTTP/1.1", length), headLines("HTTP/1.1 200 OK", length), mixedBytes(n, 3)
		if n > impl.MaxBody {
			for _, rest := range []string{"", "x", body, body + "x"} {
				checkNoRequest(t, head+rest, impl.MsLarge)
				checkNoAnswer(t, answerHead+rest, false, impl.MsLarge)
			}
			continue
		}
		checkRequest(t, head+body, requestOf("POST", "/", body), impl.MsOk)
		checkAnswer(t, answerHead+body, false, answerOf(200, "OK", body), impl.MsOk)
		checkNoRequest(t, head+body+"x", impl.MsBad)
		checkNoAnswer(t, answerHead+body+"x", false, impl.MsBad)
		if n > 0 {
			checkNoRequest(t, head+body[1:], impl.MsBad)
			checkNoAnswer(t, answerHead+body[1:], false, impl.MsBad)
		}
	}
	for _, length := range []string{"999999999999999", "4001", "601, 601"} {
		checkNoRequest(t, headLines("POST / HTTP/1.1", "Content-Length: "+length), impl.MsLarge)
	}
}

func TestBodiesThatAreTheRest(t *testing.T) {
	head := headLines("HTTP/1.1 200 OK", "A: b")
	for n := 0; n <= impl.MaxBody+3; n++ {
		body := mixedBytes(n, 5)
		if n > impl.MaxBody {
			checkNoAnswer(t, head+body, false, impl.MsLarge)
		} else {
			checkAnswer(t, head+body, false, answerOf(200, "OK", body, "A", "b"), impl.MsOk)
		}
		if n > 0 {
			checkNoAnswer(t, head+body, true, impl.MsBad)
			checkNoRequest(t, headLines("POST / HTTP/1.1")+body, impl.MsBad)
		}
	}
}

func TestFieldsThatAreLeftOut(t *testing.T) {
	lines := []string{"A: b", "Trailer: x", "a: c", "TRAILER: y", "trailers: z", "X-Trailer: w"}
	want := fieldsOf("A", "b", "a", "c", "trailers", "z", "X-Trailer", "w")
	for _, c := range []struct{ line, rest, body string }{
		{"Content-Length: 2", "xy", "xy"}, {"content-length: 0, 0", "", ""}, {"Transfer-Encoding: chunked", "2\r\nxy\r\n0\r\n\r\n", "xy"}, {"trailer:", "", ""},
	} {
		for at := 0; at <= len(lines); at++ {
			all := slices.Insert(slices.Clone(lines), at, c.line)
			text := headLines(append([]string{"POST / HTTP/1.1"}, all...)...) + c.rest
			checkRequest(t, text, impl.Msg{Method: "POST", Target: "/", Fields: want, Body: c.body}, impl.MsOk)
			text = headLines(append([]string{"HTTP/1.1 200 OK"}, all...)...) + c.rest
			checkAnswer(t, text, false, impl.Msg{Status: 200, Reason: "OK", Fields: want, Body: c.body}, impl.MsOk)
		}
	}
}

func checkChunks(t *testing.T, b, body string, code int) {
	t.Helper()
	if got, gotCode := impl.Chunks(b); got != body || gotCode != code {
		t.Errorf("Chunks(%.300q) is %.200q %d, not %.200q %d", b, got, gotCode, body, code)
	}
	if got, gotCode := chunksModel(b); got != body || gotCode != code {
		t.Errorf("the model of Chunks(%.300q) is %.200q %d, not %.200q %d", b, got, gotCode, body, code)
	}
}

func TestChunksByHand(t *testing.T) {
	for b, body := range map[string]string{
		"0\r\n\r\n": "", "0000000\r\n\r\n": "", "0;a=b\r\n\r\n": "", "1\r\nx\r\n0\r\n\r\n": "x", "1\r\nx\r\n2\r\nyz\r\n0\r\n\r\n": "xyz", "0000003\r\nabc\r\n00\r\n\r\n": "abc",
		"a\r\n0123456789\r\n0\r\n\r\n": "0123456789", "A\r\n0123456789\r\n0\r\n\r\n": "0123456789", "0B\r\n0123456789x\r\n0\r\n\r\n": "0123456789x", "1a\r\n0123456789abcdef0123456789\r\n0\r\n\r\n": "0123456789abcdef0123456789", "1A\r\n0123456789abcdef0123456789\r\n0\r\n\r\n": "0123456789abcdef0123456789",
		"1;\r\nx\r\n0;\r\n\r\n": "x", "1;y;z\r\nx\r\n0; a = \"b\"\r\n\r\n": "x", "1;\x00\xff\x7f\t \r\nx\r\n0\r\n\r\n": "x", "2\r\n\r\n\r\n0\r\n\r\n": "\r\n", "5\r\n0\r\n\r\n\r\n0\r\n\r\n": "0\r\n\r\n", "1\r\n\x00\r\n1\r\n\xff\r\n0\r\n\r\n": "\x00\xff",
		"0\r\nA: b\r\n\r\n": "", "1\r\nx\r\n0\r\nA:b\r\na: c \r\nTransfer-Encoding: x\r\nContent-Length: 9\r\n\r\n": "x", "0\r\nA:\r\n\r\n": "",
	} {
		checkChunks(t, b, body, impl.MsOk)
	}
}

func TestChunksRefuse(t *testing.T) {
	for _, b := range []string{
		"", "\r\n", "\r\n\r\n", "0", "0\r", "0\n", "0\r\n", "0\r\n\r", "0\r\n\n", "0\n\r\n", "0\n\n", "0\r\n\r\nx", "0\r\n\r\n\r\n", "0\r\n\r\n0\r\n\r\n", "00000000\r\n\r\n", "x\r\n\r\n", "g\r\n\r\n", "-0\r\n\r\n", "+0\r\n\r\n", "0x0\r\n\r\n", " 0\r\n\r\n", "0 \r\n\r\n", "0 ;\r\n\r\n", ";\r\n\r\n", ";0\r\n\r\n", "0,\r\n\r\n", "0\t\r\n\r\n",
		"1\r\n", "1\r\nx", "1\r\nx\r", "1\r\nx\r\n", "1\r\nx\r\n0\r\n", "1\r\nx0\r\n\r\n", "1\r\nxy\r\n0\r\n\r\n", "1\r\n\r\n0\r\n\r\n", "2\r\nx\r\n0\r\n\r\n", "1\r\nx\n0\r\n\r\n", "1\r\nx\n\r0\r\n\r\n", "1\r\nx\r\r\n0\r\n\r\n", "1\nx\r\n0\r\n\r\n", "1\r\nx\r\n\r\n0\r\n\r\n", "1\r\nx\r\n0\r\n\r\n1\r\ny\r\n0\r\n\r\n",
		"0\r\nA\r\n\r\n", "0\r\nA : b\r\n\r\n", "0\r\n: b\r\n\r\n", "0\r\nA: b\n\r\n", "0\r\nA: b", "0\r\nA: b\r\n", "0\r\nA: b\r\n\r\nx", "0\r\n A: b\r\n\r\n", "0\r\n \r\n\r\n", "0\r\nA: \x00\r\n\r\n", "0\r\nA: b\r\n\r\nC: d\r\n\r\n", "259", "259\n", "fffffff0\r\n", "abc", "258\r\n", "1\r\nx\r\n259;",
	} {
		checkChunks(t, b, "", impl.MsBad)
		checkNoRequest(t, headLines("POST / HTTP/1.1", "Transfer-Encoding: chunked")+b, impl.MsBad)
	}
	for _, b := range []string{"259\r\n", "259;x\r\n", "0000259\r\n", "fffffff\r\n", "FFFFFFF\r\nx", "258\r\n" + strings.Repeat("x", 600) + "\r\n1\r\n", "1\r\nx\r\n258\r\n", "1\r\nx\r\n259\r\n", "1\r\nx\r\nfffffff\r\n", "259\r\n" + strings.Repeat("x", 601) + "\r\n0\r\n\r\n"} {
		checkChunks(t, b, "", impl.MsLarge)
		checkNoRequest(t, headLines("POST / HTTP/1.1", "Transfer-Encoding: chunked")+b, impl.MsLarge)
	}
}

func TestHowLongALineOfChunksIs(t *testing.T) {
	for n := impl.MaxLine - 3; n <= impl.MaxLine+3; n++ {
		code, body := impl.MsOk, "x"
		if n > impl.MaxLine {
			code, body = impl.MsBad, ""
		}
		pad := strings.Repeat("p", n-2)
		checkChunks(t, "1;"+pad+"\r\nx\r\n0\r\n\r\n", body, code)
		checkChunks(t, "1\r\nx\r\n0;"+pad+"\r\n\r\n", body, code)
		checkChunks(t, "1\r\nx\r\n0\r\nA:"+strings.Repeat(" ", n-3)+"b\r\n\r\n", body, code)
		checkChunks(t, "1\r\nx\r\n0\r\nA: b\r\nA:"+strings.Repeat(" ", n-3)+"b\r\n\r\n", body, code)
		// A line that is too long is looked at ahead of its size.
		want := impl.MsLarge
		if n > impl.MaxLine {
			want = impl.MsBad
		}
		checkChunks(t, "259;"+strings.Repeat("p", n-4)+"\r\n", "", want)
	}
}

func TestHowManyLinesComeBehindTheChunks(t *testing.T) {
	for n := 0; n <= impl.MaxFields+3; n++ {
		code, body := impl.MsOk, "x"
		if n > impl.MaxFields {
			code, body = impl.MsBad, ""
		}
		checkChunks(t, "1\r\nx\r\n0\r\n"+strings.Repeat("A: b\r\n", n)+"\r\n", body, code)
		checkChunks(t, "1\r\nx\r\n0\r\n"+strings.Repeat("A: b\r\n", n)+"no field\r\n\r\n", "", impl.MsBad)
	}
}

func TestHowLargeChunksAre(t *testing.T) {
	for n := 1; n <= impl.MaxBody+3; n++ {
		whole := fmt.Sprintf("%x\r\n%s\r\n0\r\n\r\n", n, strings.Repeat("x", n))
		single := strings.Repeat("1\r\nx\r\n", n) + "0\r\n\r\n"
		for _, b := range []string{whole, strings.ToUpper(whole[:3]) + whole[3:], single} {
			if n > impl.MaxBody {
				checkChunks(t, b, "", impl.MsLarge)
			} else if b != single || n%50 == 0 {
				checkChunks(t, b, strings.Repeat("x", n), impl.MsOk)
			}
		}
	}
	// What Chunks reads has no bound but those of its parts.
	text := strings.Repeat("1;"+strings.Repeat("p", 290)+"\r\nx\r\n", impl.MaxBody) + "0\r\n\r\n"
	checkChunks(t, text, strings.Repeat("x", impl.MaxBody), impl.MsOk)
}

func TestChunksOfEachShortText(t *testing.T) {
	taken := 0
	eachPieces([]string{"0", "1", "2", "\r\n", ";", "x", "A:", "\n"}, 6, func(b string) {
		body, code := impl.Chunks(b)
		if want, wantCode := chunksModel(b); body != want || code != wantCode {
			t.Fatalf("Chunks(%q) is %q %d, not %q %d", b, body, code, want, wantCode)
		}
		if code == impl.MsOk {
			taken++
		}
	})
	eachPieces([]string{"1\r\n", "2;\r\n", "x", "\r\n", "0\r\n", "A: b\r\n", "\r"}, 6, func(b string) {
		body, code := impl.Chunks(b)
		if want, wantCode := chunksModel(b); body != want || code != wantCode {
			t.Fatalf("Chunks(%q) is %q %d, not %q %d", b, body, code, want, wantCode)
		}
		if code == impl.MsOk {
			taken++
		}
	})
	if taken < 20 {
		t.Errorf("just %d texts are taken", taken)
	}
}

// eachPieces calls f with every row of at most most pieces, one behind the other.
func eachPieces(parts []string, most int, f func(string)) {
	f("")
	if most == 0 {
		return
	}
	for _, part := range parts {
		eachPieces(parts, most-1, func(rest string) { f(part + rest) })
	}
}

func TestChunkTextByHand(t *testing.T) {
	for _, c := range []struct {
		body string
		size int
		want string
	}{
		{"", 1, "0\r\n\r\n"}, {"", impl.MaxBody, "0\r\n\r\n"}, {"x", 1, "1\r\nx\r\n0\r\n\r\n"}, {"x", 2, "1\r\nx\r\n0\r\n\r\n"}, {"abcd", 2, "2\r\nab\r\n2\r\ncd\r\n0\r\n\r\n"},
		{"abcde", 3, "3\r\nabc\r\n2\r\nde\r\n0\r\n\r\n"}, {"abcdefghijkl", 12, "c\r\nabcdefghijkl\r\n0\r\n\r\n"}, {"abcdefghijkl", 11, "b\r\nabcdefghijk\r\n1\r\nl\r\n0\r\n\r\n"}, {"0\r\n\r\n", 600, "5\r\n0\r\n\r\n\r\n0\r\n\r\n"},
		{strings.Repeat("x", 600), 600, "258\r\n" + strings.Repeat("x", 600) + "\r\n0\r\n\r\n"}, {strings.Repeat("x", 600), 16, strings.Repeat("10\r\n"+strings.Repeat("x", 16)+"\r\n", 37) + "8\r\nxxxxxxxx\r\n0\r\n\r\n"},
		{"x", 0, ""}, {"x", -1, ""}, {"x", impl.MaxBody + 1, ""}, {"", 0, ""}, {"", impl.MaxBody + 1, ""}, {"", -1 << 63, ""}, {"x", 1<<63 - 1, ""}, {strings.Repeat("x", 601), 1, ""}, {strings.Repeat("x", 601), 600, ""}, {strings.Repeat("x", 601), 601, ""},
	} {
		if got := impl.ChunkText(c.body, c.size); got != c.want {
			t.Errorf("ChunkText(%.60q, %d) is %.200q", c.body, c.size, got)
		}
	}
}

// Promise 6, its third part.
func TestBodiesComeBackFromChunks(t *testing.T) {
	head, answerHead := headLines("POST / HTTP/1.1", "Transfer-Encoding: chunked"), headLines("HTTP/1.1 200 OK", "Transfer-Encoding: chunked")
	check := func(body string, size int) {
		text := impl.ChunkText(body, size)
		if back, code := impl.Chunks(text); code != impl.MsOk || back != body || text == "" {
			t.Fatalf("in chunks of %d, %q came back as %q %d", size, body, back, code)
		}
		if len(head)+len(text) > impl.MaxMsg {
			checkNoRequest(t, head+text, impl.MsLarge)
			return
		}
		checkRequest(t, head+text, requestOf("POST", "/", body), impl.MsOk)
		checkAnswer(t, answerHead+text, false, answerOf(200, "OK", body), impl.MsOk)
	}
	for size := 1; size <= impl.MaxBody; size++ {
		for _, n := range []int{0, 1, size - 1, size, size + 1, 2 * size, 2*size + 1, impl.MaxBody - 1, impl.MaxBody} {
			if n <= impl.MaxBody {
				check(mixedBytes(n, uint32(size)), size)
			}
		}
	}
	for n := 0; n <= impl.MaxBody; n++ {
		for _, size := range []int{1, 2, 3, 16, 255, 256, 599, 600} {
			check(mixedBytes(n, 9), size)
		}
	}
	check(everyByte(), 7)
	eachText("0\r\n;", 5, func(body string) {
		for size := 1; size <= 6; size++ {
			check(body, size)
		}
	})
}

// No beginning of chunks is one, and nothing may come behind them.
func TestNoBeginningOfChunksIsOne(t *testing.T) {
	for _, text := range []string{impl.ChunkText("", 1), impl.ChunkText("abc", 2), impl.ChunkText("0\r\n\r\n0\r\n\r\n", 3), "1;a\r\n0\r\n000;b\r\nA: b\r\nC:\r\n\r\n", impl.ChunkText(mixedBytes(600, 2), 77)} {
		for n := range len(text) {
			checkChunks(t, text[:n], "", impl.MsBad)
		}
		for _, more := range []string{"0", "\r\n", "0\r\n\r\n", "x", "\x00"} {
			checkChunks(t, text+more, "", impl.MsBad)
		}
	}
}

// Heads and what is behind them, out of lines and parts of lines, held against the rules told in another way.
func TestEachRowOfParts(t *testing.T) {
	parts := []string{"A: b\r\n", "Content-Length: 1\r\n", "content-length: 2,2\r\n", "Transfer-Encoding: chunked\r\n", "\r\n", "x", "1\r\nx\r\n", "0\r\n", "\n"}
	for _, first := range []string{"POST / HTTP/1.1\r\n", "HTTP/1.1 200 OK\r\n", "HTTP/1.1 304 \r\n"} {
		eachPieces(parts, 5, func(rest string) {
			if rest == "" || strings.HasSuffix(rest, "\n") || strings.Contains(rest, "\r\n\r\n") {
				checkReaders(t, first+rest)
			}
		})
	}
}

// Each byte of some messages taken away, doubled, or made another.
func TestChangedBytesOfMessages(t *testing.T) {
	for _, text := range []string{
		"GET /a HTTP/1.1\r\nHost: a\r\nX:\r\n\r\n", "POST / HTTP/1.1\r\nA: b\r\nContent-Length: 12\r\n\r\n0123456789ab", "P * HTTP/1.1\r\nTransfer-Encoding: chunked\r\n\r\n3;x\r\nabc\r\n1\r\n0\r\n0\r\nT: u\r\n\r\n",
		"HTTP/1.1 200 OK\r\nA: b\r\n\r\nrest", "HTTP/1.1 304 Not\r\nContent-Length: 5\r\n\r\n", "HTTP/1.1 404 \r\ncontent-length: 2, 2\r\n\r\nxy", "HTTP/1.1 599 a b\r\nTransfer-Encoding: Chunked\r\nTrailer: T\r\n\r\n2\r\nxy\r\n0\r\n\r\n",
	} {
		checkReaders(t, text)
		for at := range len(text) {
			ahead, behind := text[:at], text[at+1:]
			checkReaders(t, ahead)
			checkReaders(t, ahead+behind)
			checkReaders(t, ahead+text[at:at+1]+text[at:])
			for i := range 256 {
				checkReaders(t, ahead+string([]byte{byte(i)})+behind)
			}
		}
	}
}

func TestReasonOf(t *testing.T) {
	for status := -700; status <= 1000; status++ {
		if got := impl.ReasonOf(status); got != knownReasons()[status] {
			t.Errorf("ReasonOf(%d) is %q", status, got)
		}
	}
	for _, status := range []int{1<<63 - 1, -1 << 63, 200 + 1<<32, 200 + 1<<16} {
		if got := impl.ReasonOf(status); got != "" {
			t.Errorf("ReasonOf(%d) is %q", status, got)
		}
	}
}

func TestCanned(t *testing.T) {
	for status := -700; status <= 1000; status++ {
		for _, bare := range []bool{false, true} {
			want := impl.Msg{}
			if status >= 200 && status <= 599 {
				want = impl.Msg{Status: status, Reason: knownReasons()[status], Bare: bare || status == 204 || status == 304}
			}
			got := impl.Canned(status, bare)
			if !sameMsg(got, want) || len(got.Fields) != 0 {
				t.Errorf("Canned(%d, %v) is %s", status, bare, shown(got))
			}
			if impl.MsgOk(got) != (want.Status != 0) {
				t.Errorf("Canned(%d, %v) is a message: %v", status, bare, impl.MsgOk(got))
			}
		}
	}
	for _, status := range []int{1<<63 - 1, -1 << 63, 200 + 1<<32} {
		if got := impl.Canned(status, false); !sameMsg(got, impl.Msg{}) {
			t.Errorf("Canned(%d) is %s", status, shown(got))
		}
	}
	if got := impl.WriteMsg(impl.Canned(431, false)); got != "HTTP/1.1 431 Request Header Fields Too Large\r\nContent-Length: 0\r\n\r\n" {
		t.Errorf("431 is written as %q", got)
	}
}

func TestFieldsOfMessagesHandedInStay(t *testing.T) {
	for _, m := range append(rightMsgs(), wrongMsgs()...) {
		given, memory := roomyFields(m.Fields)
		before := slices.Clone(memory)
		m.Fields = given
		impl.MsgOk(m)
		impl.WriteHead(m)
		impl.WriteMsg(m)
		for _, answer := range []bool{false, true} {
			impl.Framing(m.Fields, answer, false)
			impl.Framing(m.Fields, answer, true)
		}
		if !slices.Equal(memory, before) {
			t.Errorf("the fields, with the room behind them, became %.200q", memory)
		}
	}
	for _, l := range badFramings() {
		given, memory := roomyFields(l)
		before := slices.Clone(memory)
		impl.Framing(given, false, false)
		if !slices.Equal(memory, before) {
			t.Errorf("the fields, with the room behind them, became %.200q", memory)
		}
	}
}

// messageAnswers are the messages that the readers make of one text.
func messageAnswers(text string) map[string]impl.Msg {
	list := map[string]impl.Msg{}
	list["ReadHead of a request"], _, _ = impl.ReadHead(text, false)
	list["ReadHead of an answer"], _, _ = impl.ReadHead(text, true)
	list["ReadRequest"], _ = impl.ReadRequest(text)
	list["ReadAnswer"], _ = impl.ReadAnswer(text, false)
	list["ReadAnswer to HEAD"], _ = impl.ReadAnswer(text, true)
	return list
}

// messageModels are the same, in memory of their own.
func messageModels(text string) map[string]impl.Msg {
	list := map[string]impl.Msg{}
	list["ReadHead of a request"], _, _ = readHeadModel(text, false)
	list["ReadHead of an answer"], _, _ = readHeadModel(text, true)
	list["ReadRequest"], _ = readModel(text, false, false)
	list["ReadAnswer"], _ = readModel(text, true, false)
	list["ReadAnswer to HEAD"], _ = readModel(text, true, true)
	return list
}

func TestFieldsOfMessagesAnsweredAreNewMemory(t *testing.T) {
	texts := requestTexts()
	for _, m := range rightAnswers() {
		texts = append(texts, headModel(m)+m.Body)
	}
	for _, text := range texts {
		earlier, want := messageAnswers(text), messageModels(text)
		for _, m := range messageAnswers(text) {
			all := m.Fields[:cap(m.Fields)]
			for i := range all {
				all[i] = impl.Field{Name: "written", Value: "into"}
			}
		}
		for name, m := range messageAnswers(text) {
			if !sameMsg(earlier[name], want[name]) || !sameMsg(m, want[name]) {
				t.Fatalf("%s, another answer being written into, is %s and then %s, not %s", name, shown(earlier[name]), shown(m), shown(want[name]))
			}
		}
	}
}
