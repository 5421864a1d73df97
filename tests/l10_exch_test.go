package tests

import (
	"fmt"
	"math"
	"regexp"
	"slices"
	"strconv"
	"strings"
	"testing"

	"loop.example/g00651/impl"
)

// exchOf is an exchange of someUrl with a client, asked one second ahead of its answer.
func exchOf(request, answer string) impl.Exch {
	return impl.Exch{Side: impl.SdClient, Asked: someTime - 1, At: someTime, Url: someUrl, Request: request, Answer: answer}
}

func exchWith(e impl.Exch, change func(e *impl.Exch)) impl.Exch {
	change(&e)
	return e
}

// msgText is the one form of m.
func msgText(m impl.Msg) string {
	return headModel(m) + m.Body
}

// asks are requests for someUrl by that method, in some of the forms in which they may come.
func asks(method string) []string {
	first := method + " " + someUrl + " HTTP/1.1"
	return []string{
		headLines(first), headLines(first, "Host: www.b.example:8080", "accept:*/*"), headLines(first, "Content-Length: 0"),
		headLines(first, "Content-Length: 5") + "a\r\n\r\n", headLines(first, "content-length:3, 3", "X: y") + everyByte()[:3],
		headLines(first, "Transfer-Encoding: chunked") + "0\r\n\r\n", headLines(first, "transfer-encoding: Chunked", "Trailer: A") + "3;x=y\r\nabc\r\n02\r\n\r\n\r\n0\r\nA: b\r\n\r\n",
	}
}

// asksElsewhere are requests by GET whose target has someUrl as its Canon, in another form.
func asksElsewhere() []string {
	var list []string
	for _, target := range []string{"HTTP://www.b.example:8080/x?y", "http://WWW.B.Example:8080/x?y", "http://www.b.example:8080/./x?y", "http://www.b.example:8080/a/../x?y", "hTTp://www.b.EXAMPLE:8080/%78?y"} {
		list = append(list, headLines("GET "+target+" HTTP/1.1"))
	}
	return list
}

// answersTo are answers that one who asked by that method may have, each in its one form.
func answersTo(method string) []impl.Msg {
	list := []impl.Msg{bareOf(304, "Not Modified", "Etag", `"a"`), bareOf(204, "")}
	if method == "HEAD" {
		return append(list, bareOf(200, "OK"), bareOf(404, "Not Found", "Server", "s"))
	}
	return append(list, answerOf(200, "OK", "hello", "Server", "s"), answerOf(404, "", ""), answerOf(500, "x", "a\r\n\r\nb"), answerOf(203, " two  blanks ", everyByte()))
}

// fewExchs are of both sides, by GET, HEAD and POST, with and without bodies.
func fewExchs() []impl.Exch {
	var list []impl.Exch
	for _, side := range []int{impl.SdClient, impl.SdOrigin} {
		for _, method := range []string{"GET", "HEAD", "POST"} {
			for _, ask := range asks(method) {
				for _, m := range answersTo(method) {
					list = append(list, exchWith(exchOf(ask, msgText(m)), func(e *impl.Exch) { e.Side = side }))
				}
			}
		}
	}
	return list
}

// smallExchs are one of each side, one with a payload and one without.
func smallExchs() []impl.Exch {
	return []impl.Exch{
		{Side: impl.SdClient, Asked: 7, At: 8, Url: "http://a/", Request: "G http://a HTTP/1.1\r\n\r\n", Answer: "HTTP/1.1 200 \r\nContent-Length: 2\r\n\r\nab"},
		{Side: impl.SdOrigin, Asked: 7, At: 7, Url: "http://a/", Request: "HEAD http://a/ HTTP/1.1\r\nContent-Length: 1\r\n\r\nb", Answer: "HTTP/1.1 200 \r\nA: b\r\n\r\n"},
	}
}

// The rules told in another way: the readers of the earlier chapters in their other way, a format for a mark, and groups held together part by part.

func exchModel(e impl.Exch) bool {
	if e.Side != 0 && e.Side != 1 || e.Asked < 0 || e.At > 253402300799 || e.At < e.Asked {
		return false
	}
	ask, askCode := readModel(e.Request, false, false)
	u, named := readUrlModel(ask.Target)
	answer, code := readModel(e.Answer, true, ask.Method == "HEAD")
	return askCode == 0 && code == 0 && named && urlTextModel(u) == e.Url && msgText(answer) == e.Answer
}

func markModel(side, id int) string {
	return fmt.Sprintf("side: %s\r\ncommits: %d\r\n", [...]string{"client", "origin"}[side], id)
}

// groupOf are the three records by the rules, whether the exchange and the numbers are right or not.
func groupOf(e impl.Exch, id, refers int) []impl.Rec {
	end := max(headEndModel(e.Answer), 0)
	answer := answerRec(id+1, e.At, e.Url, e.Answer[:end], e.Answer[end:])
	if refers != 0 {
		answer = revisitRec(id+1, e.At, e.Url, refers, e.Answer[end:], e.Answer[:end])
	}
	return []impl.Rec{askRec(id, e.Asked, e.Url, e.Request), answer, markRec(id+2, e.At, e.Url, markModel(e.Side, id))}
}

func recordsModel(e impl.Exch, id, refers int) []impl.Rec {
	if !exchModel(e) || id < 1 || id > 999997 || refers < 0 || refers > id {
		return nil
	}
	return groupOf(e, id, refers)
}

var markForm = regexp.MustCompile("^side: (client|origin)\r\ncommits: (0|[1-9][0-9]*)\r\n$")

func fromModel(l []impl.Rec, payload string) (impl.Exch, bool) {
	if len(l) != 3 || !recModel(l[0]) || !recModel(l[1]) || !recModel(l[2]) {
		return impl.Exch{}, false
	}
	ask, answer, mark := l[0], l[1], l[2]
	said := markForm.FindStringSubmatch(mark.Block)
	if ask.Kind != 1 || answer.Kind != 2 && answer.Kind != 3 || mark.Kind != 4 || said == nil || said[2] != strconv.Itoa(ask.Id) {
		return impl.Exch{}, false
	}
	if ask.Id < 1 || answer.Id-ask.Id != 1 || mark.Id-ask.Id != 2 || mark.Time != answer.Time || answer.Url != ask.Url || mark.Url != ask.Url {
		return impl.Exch{}, false
	}
	whole := answer.Block
	if answer.Kind == 3 {
		if labelModel(payload) != answer.Label {
			return impl.Exch{}, false
		}
		whole += payload
	}
	e := impl.Exch{Side: slices.Index([]string{"client", "origin"}, said[1]), Asked: ask.Time, At: answer.Time, Url: ask.Url, Request: ask.Block, Answer: whole}
	if !exchModel(e) {
		return impl.Exch{}, false
	}
	return e, true
}

// exchShown is e for a report, cut where it is long.
func exchShown(e impl.Exch) string {
	return fmt.Sprintf("side %d asked %d at %d %.210q %.300q of %d %.300q of %d", e.Side, e.Asked, e.At, e.Url, e.Request, len(e.Request), e.Answer, len(e.Answer))
}

func groupShown(l []impl.Rec) string {
	text := fmt.Sprintf("%d records", len(l))
	for _, r := range l[:min(len(l), 4)] {
		text += " [" + recShown(r) + "]"
	}
	return text
}

func checkRecords(t *testing.T, e impl.Exch, id, refers int) {
	t.Helper()
	want := recordsModel(e, id, refers)
	if got := impl.Records(e, id, refers); !slices.Equal(got, want) {
		t.Errorf("Records(%s, %d, %d) are %s, not %s", exchShown(e), id, refers, groupShown(got), groupShown(want))
	}
}

// checkGroup holds FromRecords against the rules, whatever l and payload are.
func checkGroup(t *testing.T, l []impl.Rec, payload string) {
	t.Helper()
	want, wantOk := fromModel(l, payload)
	if got, ok := impl.FromRecords(l, payload); got != want || ok != wantOk {
		t.Errorf("FromRecords(%s, %.60q) is %s and %v, not %s and %v", groupShown(l), payload, exchShown(got), ok, exchShown(want), wantOk)
	}
}

func checkFrom(t *testing.T, l []impl.Rec, payload string, want impl.Exch) {
	t.Helper()
	if got, ok := impl.FromRecords(l, payload); !ok || got != want {
		t.Errorf("FromRecords(%s, %.60q) is %s and %v, not %s", groupShown(l), payload, exchShown(got), ok, exchShown(want))
	}
	checkGroup(t, l, payload)
}

func checkNoGroup(t *testing.T, l []impl.Rec, payload string) {
	t.Helper()
	if got, ok := impl.FromRecords(l, payload); ok || got != (impl.Exch{}) {
		t.Errorf("FromRecords(%s, %.60q) is %s and %v", groupShown(l), payload, exchShown(got), ok)
	}
	checkGroup(t, l, payload)
}

// checkTold holds all that is told of e alone against the rules, whatever e is.
func checkTold(t *testing.T, e impl.Exch) {
	t.Helper()
	want := exchModel(e)
	ask, answer, mark := impl.Msg{}, impl.Msg{}, ""
	if want {
		ask, _ = readModel(e.Request, false, false)
		answer, _ = readModel(e.Answer, true, ask.Method == "HEAD")
		mark = markModel(e.Side, 12)
	}
	if got := impl.ExchOk(e); got != want {
		t.Errorf("ExchOk(%s) is %v", exchShown(e), got)
	}
	if method, status := impl.MethodOf(e), impl.StatusOf(e); method != ask.Method || status != answer.Status {
		t.Errorf("%s is by %q with %d, not %q with %d", exchShown(e), method, status, ask.Method, answer.Status)
	}
	if got := impl.RequestOf(e); !sameMsg(got, ask) {
		t.Errorf("RequestOf(%s) is %s, not %s", exchShown(e), shown(got), shown(ask))
	}
	if got := impl.AnswerOf(e); !sameMsg(got, answer) {
		t.Errorf("AnswerOf(%s) is %s, not %s", exchShown(e), shown(got), shown(answer))
	}
	if got := impl.MarkText(e, 12); got != mark {
		t.Errorf("MarkText(%s, 12) is %q, not %q", exchShown(e), got, mark)
	}
	checkRecords(t, e, 12, 0)
	checkRecords(t, e, 12, 5)
}

// readAgain are the records of l, each read from its text.
func readAgain(t *testing.T, l []impl.Rec) []impl.Rec {
	t.Helper()
	text := ""
	for _, r := range l {
		text += impl.RecText(r)
	}
	again, ok := impl.ReadRecs(text)
	if !ok || len(again) != 3 {
		t.Errorf("%s have no texts", groupShown(l))
	}
	return again
}

// checkRightExch asks for e back from its three records, its payload in them or referred to.
func checkRightExch(t *testing.T, e impl.Exch) {
	t.Helper()
	if !impl.ExchOk(e) {
		t.Errorf("%s is refused", exchShown(e))
	}
	checkTold(t, e)
	payload := e.Answer[headEndModel(e.Answer):]
	whole, referred := readAgain(t, impl.Records(e, 12, 0)), readAgain(t, impl.Records(e, 12, 5))
	checkFrom(t, whole, payload, e)
	checkFrom(t, whole, "", e)
	checkFrom(t, whole, payload+"x", e)
	checkFrom(t, referred, payload, e)
	checkNoGroup(t, referred, payload+"x")
	checkNoGroup(t, referred, "x"+payload)
	if payload != "" {
		checkNoGroup(t, referred, "")
		checkNoGroup(t, referred, payload[1:])
		checkNoGroup(t, referred, payload[:len(payload)-1])
		checkNoGroup(t, referred, payload[:len(payload)-1]+string([]byte{payload[len(payload)-1] ^ 1}))
	}
}

func checkWrongExch(t *testing.T, e impl.Exch) {
	t.Helper()
	if impl.ExchOk(e) {
		t.Errorf("%s is ok", exchShown(e))
	}
	checkTold(t, e)
	if e.Side != impl.SdClient && e.Side != impl.SdOrigin {
		return
	}
	// Its records, as they would be, are those of no exchange.
	payload := e.Answer[max(headEndModel(e.Answer), 0):]
	checkNoGroup(t, groupOf(e, 12, 0), payload)
	checkNoGroup(t, groupOf(e, 12, 5), payload)
}

func checkAnyExch(t *testing.T, e impl.Exch, right bool) {
	t.Helper()
	if right {
		checkRightExch(t, e)
		return
	}
	checkWrongExch(t, e)
}

func TestConstantsOfExchanges(t *testing.T) {
	if impl.MaxList != 200 {
		t.Error("a constant is not the document's")
	}
}

func TestExchangesByHand(t *testing.T) {
	get := impl.Exch{Side: 0, Asked: 7, At: 8, Url: "http://a.b/", Request: "GET HTTP://A.b:80 HTTP/1.1\r\nHost: a.b\r\n\r\n", Answer: "HTTP/1.1 404 No\r\nA: b\r\nContent-Length: 3\r\n\r\nabc"}
	label := "sha1:VGMT4NSHA2AWVOR6EVYXQUGCNSONBWE5"
	if impl.MethodOf(get) != "GET" || impl.StatusOf(get) != 404 || !sameMsg(impl.RequestOf(get), requestOf("GET", "HTTP://A.b:80", "", "Host", "a.b")) || !sameMsg(impl.AnswerOf(get), answerOf(404, "No", "abc", "A", "b")) {
		t.Errorf("%s is %s and %s", exchShown(get), shown(impl.RequestOf(get)), shown(impl.AnswerOf(get)))
	}
	want := []impl.Rec{
		{Kind: 1, Id: 4, Time: 7, Url: "http://a.b/", Block: "GET HTTP://A.b:80 HTTP/1.1\r\nHost: a.b\r\n\r\n"},
		{Kind: 2, Id: 5, Time: 8, Url: "http://a.b/", Label: label, Block: "HTTP/1.1 404 No\r\nA: b\r\nContent-Length: 3\r\n\r\nabc"},
		{Kind: 4, Id: 6, Time: 8, Url: "http://a.b/", Block: "side: client\r\ncommits: 4\r\n"},
	}
	if got := impl.Records(get, 4, 0); !slices.Equal(got, want) {
		t.Errorf("the records are %s", groupShown(got))
	}
	checkFrom(t, want, "", get)
	want[1] = impl.Rec{Kind: 3, Id: 5, Time: 8, Url: "http://a.b/", Refers: 2, Label: label, Block: "HTTP/1.1 404 No\r\nA: b\r\nContent-Length: 3\r\n\r\n"}
	if got := impl.Records(get, 4, 2); !slices.Equal(got, want) {
		t.Errorf("the records with a payload referred to are %s", groupShown(got))
	}
	checkFrom(t, want, "abc", get)
	head := impl.Exch{Side: 1, Asked: 0, At: impl.MaxTime, Url: "http://a.b:81/x?", Request: "HEAD http://a.b:81/x? HTTP/1.1\r\ncontent-length:1\r\n\r\nz", Answer: "HTTP/1.1 200 OK\r\n\r\n"}
	if impl.MethodOf(head) != "HEAD" || impl.StatusOf(head) != 200 || !sameMsg(impl.RequestOf(head), requestOf("HEAD", "http://a.b:81/x?", "z")) || !sameMsg(impl.AnswerOf(head), bareOf(200, "OK")) {
		t.Errorf("%s is %s and %s", exchShown(head), shown(impl.RequestOf(head)), shown(impl.AnswerOf(head)))
	}
	if got := impl.MarkText(head, 999999); got != "side: origin\r\ncommits: 999999\r\n" {
		t.Errorf("the mark is %q", got)
	}
	checkRightExch(t, get)
	checkRightExch(t, head)
}

// Promise 11.
func TestExchangesComeBack(t *testing.T) {
	for _, e := range append(fewExchs(), smallExchs()...) {
		checkRightExch(t, e)
	}
	for _, side := range []int{impl.SdClient, impl.SdOrigin} {
		for _, ask := range asksElsewhere() {
			checkRightExch(t, exchWith(exchOf(ask, msgText(answerOf(200, "OK", "hello"))), func(e *impl.Exch) { e.Side = side }))
		}
	}
}

// An exchange comes back with each number and each reference that it may have.
func TestExchangesComeBackWithEachNumber(t *testing.T) {
	for _, e := range append(smallExchs(), fewExchs()[0]) {
		payload := e.Answer[headEndModel(e.Answer):]
		for _, id := range []int{1, 2, 3, 9, 10, 99, 100, 4000, impl.MaxId - 3, impl.MaxId - 2} {
			for _, refers := range []int{0, 1, 2, id / 2, id - 1, id} {
				if refers <= id {
					checkRecords(t, e, id, refers)
					checkFrom(t, readAgain(t, impl.Records(e, id, refers)), payload, e)
				}
			}
		}
	}
}

func TestTheZeroValueIsNoExchange(t *testing.T) {
	checkWrongExch(t, impl.Exch{})
	e := fewExchs()[0]
	for _, change := range []func(e *impl.Exch){
		func(e *impl.Exch) { e.Url = "" }, func(e *impl.Exch) { e.Request = "" }, func(e *impl.Exch) { e.Answer = "" },
	} {
		checkWrongExch(t, exchWith(e, change))
	}
}

func TestSidesOfExchanges(t *testing.T) {
	for _, e := range smallExchs() {
		for _, side := range []int{math.MinInt, -1 << 32, -2, -1, 0, 1, 2, 3, 255, 256, 257, 1 << 32, 1<<32 + 1, math.MaxInt} {
			checkAnyExch(t, exchWith(e, func(e *impl.Exch) { e.Side = side }), side == 0 || side == 1)
		}
	}
}

func TestTimesOfExchanges(t *testing.T) {
	times := append(noTimes(), 0, 1, 2, someTime-1, someTime, someTime+1, impl.MaxTime-1, impl.MaxTime)
	for _, e := range smallExchs() {
		for _, asked := range times {
			for _, at := range times {
				right := asked >= 0 && asked <= at && at <= impl.MaxTime
				checkAnyExch(t, exchWith(e, func(e *impl.Exch) { e.Asked, e.At = asked, at }), right)
			}
		}
	}
	for _, at := range edgeTimes() {
		if at%7 == 0 {
			checkRightExch(t, exchWith(smallExchs()[at%2], func(e *impl.Exch) { e.Asked, e.At = at, at }))
		}
	}
}

func TestAddressesOfExchanges(t *testing.T) {
	answer := msgText(answerOf(200, "OK", "x"))
	for _, url := range ownUrls() {
		e := exchOf(headLines("PUT "+url+" HTTP/1.1"), answer)
		checkRightExch(t, exchWith(e, func(e *impl.Exch) { e.Url = url }))
		checkAnyExch(t, e, url == someUrl)
	}
	for _, target := range []string{"HTTP://www.b.example:8080/x?y", "http://WWW.b.example:8080/x?y", "http://www.b.example:08080/x?y", "http://www.b.example:8080/./x?y", "http://www.b.example:8080/%78?y", "http://www.b.example:8080/x", "http://www.b.example:8080/x?", "http://www.b.example/x?y", "example,b,www:8080)/x?y", "www.b.example:8080", ""} {
		checkWrongExch(t, exchWith(exchOf(someAsk, answer), func(e *impl.Exch) { e.Url = target }))
		ask := headLines("GET " + target + " HTTP/1.1")
		form, ok := readUrlModel(target)
		if ok && urlTextModel(form) != target {
			// The address is the target as it came, which is not its own Canon.
			checkWrongExch(t, exchWith(exchOf(ask, answer), func(e *impl.Exch) { e.Url = target }))
			checkRightExch(t, exchWith(exchOf(ask, answer), func(e *impl.Exch) { e.Url = urlTextModel(form) }))
		}
	}
}

// A target that has no Canon is none of an exchange, not even with the empty text as its address.
func TestTargetsWithoutAnAddress(t *testing.T) {
	for _, target := range []string{"/", "/x?y", "*", "a.b:80", "https://a.b/", "http://", "http://a..b/", "http://a.b/#x", "http://a.b:/", "http://a.b:0/", "http://a.b/%4%31", "http://" + strings.Repeat("h", impl.MaxHost+1) + "/", "http://a/" + strings.Repeat("p", impl.MaxTarget-9) + "%41"} {
		for _, url := range []string{"", target, "http://a.b/", "http://"} {
			checkWrongExch(t, exchWith(exchOf(headLines("GET "+target+" HTTP/1.1", "Host: a.b"), msgText(answerOf(200, "OK", ""))), func(e *impl.Exch) { e.Url = url }))
		}
	}
}

func TestRequestsOfExchanges(t *testing.T) {
	answer := msgText(answerOf(200, "OK", "x"))
	for _, ask := range append(asks("POST"), asksElsewhere()...) {
		for n := range len(ask) {
			checkWrongExch(t, exchOf(ask[:n], answer))
		}
		for _, more := range []string{"\r", "\n", "\r\n", "\r\n\r\n", "x", "\x00", " ", "0\r\n\r\n", ask} {
			checkWrongExch(t, exchOf(ask+more, answer))
		}
		checkWrongExch(t, exchOf(ask[1:]+" ", answer))
		checkWrongExch(t, exchOf(" "+ask, answer))
	}
	first := "POST " + someUrl + " HTTP/1.1"
	for _, ask := range []string{
		answer, someMark, headLines("POST " + someUrl), headLines("POST " + someUrl + " HTTP/1.0"), headLines("POST  " + someUrl + " HTTP/1.1"), headLines(first, "Content-Length: 1", "Transfer-Encoding: chunked") + "0\r\n\r\n", headLines(first, "Content-Length: 1, 2") + "x", headLines(first, "a b: c"), strings.ReplaceAll(someAsk, "\r\n", "\n"),
		headLines(first, "Content-Length: 601") + strings.Repeat("b", 601), headLines(strings.Repeat("M", impl.MaxMethod+1) + " " + someUrl + " HTTP/1.1"), headLines("(x) " + someUrl + " HTTP/1.1"), strings.Repeat("x", 1<<18), someAsk + strings.Repeat("x", 1<<18),
	} {
		checkWrongExch(t, exchOf(ask, answer))
	}
}

// The longest request that is taken is as long as a record's block may be.
func TestTheLongestExchange(t *testing.T) {
	answer := msgText(grown(answerOf(200, "OK", strings.Repeat("b", impl.MaxBody)), impl.MaxHead))
	head := headLines("POST "+someUrl+" HTTP/1.1", "Transfer-Encoding: chunked")
	for _, n := range []int{impl.MaxMsg - 1, impl.MaxMsg, impl.MaxMsg + 1} {
		text, _ := paddedChunks(n - len(head))
		if len(head)+len(text) != n {
			t.Fatalf("%d bytes, not %d", len(head)+len(text), n)
		}
		checkAnyExch(t, exchOf(head+text, answer), n <= impl.MaxMsg)
	}
	checkWrongExch(t, exchOf(someAsk, msgText(grown(answerOf(200, "OK", "x"), impl.MaxHead+1))))
	checkWrongExch(t, exchOf(someAsk, msgText(answerOf(200, "OK", strings.Repeat("b", impl.MaxBody+1)))))
}

func TestAnswersOfExchanges(t *testing.T) {
	for _, m := range rightAnswers() {
		forced := m.Bare && m.Status != 204 && m.Status != 304
		checkAnyExch(t, exchOf(asks("GET")[0], msgText(m)), !forced)
		checkAnyExch(t, exchOf(asks("HEAD")[0], msgText(m)), m.Bare)
	}
}

// HEAD is written in great letters; any other method has an answer with a body.
func TestAnswersToHead(t *testing.T) {
	bare, whole := headLines("HTTP/1.1 200 OK", "A: b"), headLines("HTTP/1.1 200 OK", "A: b", "Content-Length: 0")
	for _, method := range []string{"GET", "POST", "head", "Head", "HEADS", "HEA", "XHEAD"} {
		for _, ask := range asks(method) {
			checkRightExch(t, exchOf(ask, whole))
			checkWrongExch(t, exchOf(ask, bare))
		}
	}
	for _, ask := range asks("HEAD") {
		checkRightExch(t, exchOf(ask, bare))
		for _, answer := range []string{whole, headLines("HTTP/1.1 200 OK", "Content-Length: 5"), headLines("HTTP/1.1 200 OK", "Content-Length: 5", "A: b"), headLines("HTTP/1.1 200 OK", "Transfer-Encoding: chunked"), bare + "x", headLines("HTTP/1.1 304 N", "Content-Length: 0")} {
			checkWrongExch(t, exchOf(ask, answer))
		}
	}
}

// What ReadAnswer takes is not enough: an answer stands in the form that WriteMsg gives.
func TestAnswersInAnotherForm(t *testing.T) {
	ask := asks("GET")[0]
	checkRightExch(t, exchOf(ask, headLines("HTTP/1.1 200 OK", "A: b", "Content-Length: 2")+"xy"))
	for _, answer := range []string{
		headLines("HTTP/1.1 200 OK", "A: b", "content-length: 2") + "xy", headLines("HTTP/1.1 200 OK", "A: b", "Content-Length:2") + "xy", headLines("HTTP/1.1 200 OK", "A: b", "Content-Length: 2 ") + "xy", headLines("HTTP/1.1 200 OK", "A: b", "Content-Length: 2, 2") + "xy", headLines("HTTP/1.1 200 OK", "A: b", "Content-Length: 2", "Content-Length: 2") + "xy", headLines("HTTP/1.1 200 OK", "Content-Length: 2", "A: b") + "xy",
		headLines("HTTP/1.1 200 OK", "A: b") + "xy", headLines("HTTP/1.1 200 OK", "A: b"), headLines("HTTP/1.1 200 OK", "A:b", "Content-Length: 2") + "xy", headLines("HTTP/1.1 200 OK", "A:  b", "Content-Length: 2") + "xy", headLines("HTTP/1.1 200 OK", "A: b\t", "Content-Length: 2") + "xy", headLines("HTTP/1.1 200 OK", "Trailer: x", "Content-Length: 2") + "xy",
		headLines("HTTP/1.1 200 OK", "Transfer-Encoding: chunked") + "2\r\nxy\r\n0\r\n\r\n", headLines("HTTP/1.1 204 N", "Content-Length: 0"), headLines("HTTP/1.1 304 N", "A: b", "Content-Length: 2"), headLines("HTTP/1.1 304 N", "Transfer-Encoding: chunked"),
	} {
		if _, code := impl.ReadAnswer(answer, false); code != impl.MsOk {
			t.Errorf("%q is not taken", answer)
		}
		checkWrongExch(t, exchOf(ask, answer))
	}
	for _, answer := range []string{
		"", "x", someAsk, someMark, "HTTP/1.1 200 OK\r\n", "HTTP/1.1 200 OK\n\n", headLines("HTTP/1.1 200"), headLines("HTTP/1.0 200 OK", "Content-Length: 0"), headLines("HTTP/1.1 199 OK", "Content-Length: 0"), headLines("HTTP/1.1 600 OK", "Content-Length: 0"), headLines("HTTP/1.1 200 OK", "Content-Length: 2") + "x", headLines("HTTP/1.1 200 OK", "Content-Length: 2") + "xyz", headLines("HTTP/1.1 204 N") + "x", headLines("HTTP/1.1 200 "+strings.Repeat("r", impl.MaxReason+1), "Content-Length: 0"), strings.Repeat("x", 1<<18),
	} {
		checkWrongExch(t, exchOf(ask, answer))
	}
}

func TestEachChangeOfAnExchange(t *testing.T) {
	for _, e := range smallExchs() {
		eachChange(e.Request, func(s string) { checkTold(t, exchWith(e, func(e *impl.Exch) { e.Request = s })) })
		eachChange(e.Answer, func(s string) { checkTold(t, exchWith(e, func(e *impl.Exch) { e.Answer = s })) })
		eachChange(e.Url, func(s string) {
			changed := exchWith(e, func(e *impl.Exch) { e.Url = s })
			if impl.ExchOk(changed) != (s == e.Url) {
				t.Errorf("ExchOk(%s) is %v", exchShown(changed), s != e.Url)
			}
		})
	}
}

func TestMarks(t *testing.T) {
	ids := []int{0, 1, 2, 9, 10, 11, 99, 100, 1000, 99999, 100000, impl.MaxId - 3, impl.MaxId - 2, impl.MaxId - 1, impl.MaxId}
	for _, e := range append(fewExchs(), smallExchs()...) {
		for _, id := range ids {
			want := fmt.Sprintf("side: client\r\ncommits: %d\r\n", id)
			if e.Side == impl.SdOrigin {
				want = fmt.Sprintf("side: origin\r\ncommits: %d\r\n", id)
			}
			if got := impl.MarkText(e, id); got != want {
				t.Errorf("MarkText(%s, %d) is %q", exchShown(e), id, got)
			}
		}
	}
	for _, e := range smallExchs() {
		for _, id := range []int{-1, -2, -1 << 32, impl.MaxId + 1, impl.MaxId + 2, 1 << 32, 1<<32 + 1, impl.MaxNum, impl.MaxNum + 1, math.MinInt, math.MaxInt} {
			if got := impl.MarkText(e, id); got != "" {
				t.Errorf("MarkText(%s, %d) is %q", exchShown(e), id, got)
			}
		}
		wrong := exchWith(e, func(e *impl.Exch) { e.Url += "x" })
		for _, id := range ids {
			if got := impl.MarkText(wrong, id); got != "" {
				t.Errorf("MarkText of what is no exchange and %d is %q", id, got)
			}
		}
	}
}

func TestNumbersOfRecordsOfExchanges(t *testing.T) {
	far := []int{math.MinInt, -1 << 32, -2, -1, 0, 1 << 32, 1<<32 + 5, math.MaxInt - 2, math.MaxInt - 1, math.MaxInt}
	for _, e := range append(smallExchs(), impl.Exch{}) {
		for _, id := range append(far, 1, 2, 3, 500, impl.MaxId-3, impl.MaxId-2, impl.MaxId-1, impl.MaxId, impl.MaxId+1) {
			for _, refers := range append(far, 1, 2, 3, 4, 500, id-1, id, id+1, impl.MaxId) {
				checkRecords(t, e, id, refers)
				got := impl.Records(e, id, refers)
				want := 0
				if impl.ExchOk(e) && id >= 1 && id <= impl.MaxId-2 && refers >= 0 && refers <= id {
					want = 3
				}
				if len(got) != want {
					t.Errorf("Records(%s, %d, %d) are %d", exchShown(e), id, refers, len(got))
				}
			}
		}
	}
}

// Groups of wrong numbers are refused although their parts go together.
func TestGroupsOfWrongNumbers(t *testing.T) {
	for _, e := range smallExchs() {
		payload := e.Answer[headEndModel(e.Answer):]
		for _, id := range []int{math.MinInt, -5, -3, -2, -1, 0, impl.MaxId - 1, impl.MaxId, impl.MaxId + 1, 1 << 32, math.MaxInt - 2} {
			for _, refers := range []int{0, 1} {
				checkNoGroup(t, groupOf(e, id, refers), payload)
			}
		}
		for _, refers := range []int{-1, -12, 13, 14, 1 << 32, math.MinInt, math.MaxInt} {
			checkNoGroup(t, groupOf(e, 12, refers), payload)
		}
	}
}

func TestPayloadsThatAreEmpty(t *testing.T) {
	label := "sha1:3I42H3S6NNFQ2MSVX7XZKYAYSCX5QBYJ"
	for _, e := range []impl.Exch{exchOf(asks("GET")[0], headLines("HTTP/1.1 200 OK", "Content-Length: 0")), exchOf(asks("GET")[0], headLines("HTTP/1.1 304 N")), exchOf(asks("HEAD")[0], headLines("HTTP/1.1 200 OK"))} {
		whole, referred := impl.Records(e, 12, 0), impl.Records(e, 12, 5)
		if len(whole) != 3 || len(referred) != 3 {
			t.Fatalf("%s has no records", exchShown(e))
		}
		if whole[1].Block != referred[1].Block || whole[1].Label != label || referred[1].Label != label || whole[1].Kind != impl.RcAnswer || referred[1].Kind != impl.RcRevisit || referred[1].Refers != 5 {
			t.Errorf("the records of %s are %s and %s", exchShown(e), groupShown(whole), groupShown(referred))
		}
		checkRightExch(t, e)
	}
}

// groupWith is l with one record changed, in new memory.
func groupWith(l []impl.Rec, place int, change func(r *impl.Rec)) []impl.Rec {
	l = slices.Clone(l)
	change(&l[place])
	return l
}

func TestListsThatAreNoGroups(t *testing.T) {
	for _, e := range smallExchs() {
		payload := e.Answer[headEndModel(e.Answer):]
		for _, refers := range []int{0, 5} {
			l := groupOf(e, 12, refers)
			checkFrom(t, l, payload, e)
			next := groupOf(e, 15, refers)
			info := infoRec(11, e.At, someInfo)
			for _, list := range [][]impl.Rec{
				nil, {}, l[:1], l[:2], l[1:], l[2:], {l[0], l[2]}, slices.Concat(l, l), slices.Concat(l, next), append(slices.Clone(l), next[0]), append([]impl.Rec{info}, l...), append(slices.Clone(l), info), append(slices.Clone(l), impl.Rec{}), slices.Repeat(l, 1000), make([]impl.Rec, 3),
				{l[0], l[2], l[1]}, {l[1], l[0], l[2]}, {l[1], l[2], l[0]}, {l[2], l[0], l[1]}, {l[2], l[1], l[0]}, {l[0], l[0], l[0]}, {l[0], l[1], l[1]}, {l[0], l[0], l[2]}, {l[1], l[1], l[2]},
				{next[0], l[1], l[2]}, {l[0], next[1], l[2]}, {l[0], l[1], next[2]}, {next[0], next[1], l[2]}, {info, l[1], l[2]}, {l[0], info, l[2]}, {l[0], l[1], info}, {info, l[0], l[1]},
			} {
				checkNoGroup(t, list, payload)
				checkNoGroup(t, list, "")
			}
		}
	}
}

func TestRecordsThatDoNotGoTogether(t *testing.T) {
	for _, e := range smallExchs() {
		payload := e.Answer[headEndModel(e.Answer):]
		for _, refers := range []int{0, 5} {
			l := groupOf(e, 12, refers)
			for place := range l {
				for kind := -1; kind <= otherKind; kind++ {
					if kind != l[place].Kind {
						checkNoGroup(t, groupWith(l, place, func(r *impl.Rec) { r.Kind = kind }), payload)
					}
				}
				for _, change := range []func(r *impl.Rec){
					func(r *impl.Rec) { r.Id-- }, func(r *impl.Rec) { r.Id++ }, func(r *impl.Rec) { r.Id = 0 }, func(r *impl.Rec) { r.Id = -r.Id }, func(r *impl.Rec) { r.Id += 1 << 32 },
					func(r *impl.Rec) { r.Time = -1 }, func(r *impl.Rec) { r.Time = impl.MaxTime + 1 }, func(r *impl.Rec) { r.Time++; r.Time *= 2 },
					func(r *impl.Rec) { r.Url = "" }, func(r *impl.Rec) { r.Url = "http://b/" }, func(r *impl.Rec) { r.Url = "http://a" }, func(r *impl.Rec) { r.Url = "HTTP://a/" }, func(r *impl.Rec) { r.Url += " " },
					func(r *impl.Rec) { r.Label = labelModel("another") }, func(r *impl.Rec) { r.Label += "A" }, func(r *impl.Rec) { r.Label = strings.ToLower(r.Label) + "x" },
					func(r *impl.Rec) { r.Refers = -1 }, func(r *impl.Rec) { r.Refers = 13 }, func(r *impl.Rec) { r.Refers = 14 }, func(r *impl.Rec) { r.Refers = math.MaxInt },
					func(r *impl.Rec) { r.Block = "" }, func(r *impl.Rec) { r.Block += "x" }, func(r *impl.Rec) { r.Block += "\r\n" }, func(r *impl.Rec) { r.Block = " " + r.Block }, func(r *impl.Rec) { r.Block = r.Block[1:] }, func(r *impl.Rec) { r.Block = r.Block[:len(r.Block)-1] }, func(r *impl.Rec) { r.Block = "\r\n\r\n" }, func(r *impl.Rec) { *r = impl.Rec{} },
				} {
					checkNoGroup(t, groupWith(l, place, change), payload)
				}
			}
			for _, place := range []int{0, 2} {
				checkNoGroup(t, groupWith(l, place, func(r *impl.Rec) { r.Refers = 5 }), payload)
				checkNoGroup(t, groupWith(l, place, func(r *impl.Rec) { r.Label = labelModel(payload) }), payload)
			}
			checkNoGroup(t, groupWith(l, 1, func(r *impl.Rec) { r.Label = "" }), payload)
			checkNoGroup(t, groupWith(l, 1, func(r *impl.Rec) { r.Refers = 5 - refers }), payload)
		}
	}
}

// What stands in one record alone is believed: such a change makes the records of another exchange, or, in the reference, other records of the same one.
func TestRecordsOfAnotherExchange(t *testing.T) {
	for _, e := range smallExchs() {
		payload := e.Answer[headEndModel(e.Answer):]
		for _, refers := range []int{0, 5} {
			l := groupOf(e, 12, refers)
			checkFrom(t, groupWith(l, 0, func(r *impl.Rec) { r.Time = 3 }), payload, exchWith(e, func(e *impl.Exch) { e.Asked = 3 }))
			checkNoGroup(t, groupWith(l, 0, func(r *impl.Rec) { r.Time = e.At + 1 }), payload)
			later := groupWith(l, 1, func(r *impl.Rec) { r.Time = e.At + 9 })
			checkNoGroup(t, later, payload)
			checkFrom(t, groupWith(later, 2, func(r *impl.Rec) { r.Time = e.At + 9 }), payload, exchWith(e, func(e *impl.Exch) { e.At += 9 }))
			checkFrom(t, groupWith(l, 2, func(r *impl.Rec) { r.Block = markModel(1-e.Side, 12) }), payload, exchWith(e, func(e *impl.Exch) { e.Side = 1 - e.Side }))
			checkFrom(t, groupWith(l, 0, func(r *impl.Rec) { r.Block = strings.Replace(r.Block, "\r\n", "\r\nX: y\r\n", 1) }), payload, exchWith(e, func(e *impl.Exch) { e.Request = strings.Replace(e.Request, "\r\n", "\r\nX: y\r\n", 1) }))
		}
		for _, refers := range []int{1, 4, 12} {
			checkFrom(t, groupWith(groupOf(e, 12, 5), 1, func(r *impl.Rec) { r.Refers = refers }), payload, e)
		}
	}
}

func TestMarksOfGroups(t *testing.T) {
	for _, e := range smallExchs() {
		payload := e.Answer[headEndModel(e.Answer):]
		for _, refers := range []int{0, 5} {
			l := groupOf(e, 12, refers)
			for _, block := range []string{
				"", "x", "\r\n", "side: client\r\n", "side: origin\r\n", "commits: 12\r\n", "commits: 12\r\nside: client\r\n", "side: client\ncommits: 12\n", "side: client\r\ncommits: 12", "side:client\r\ncommits: 12\r\n", "side: client \r\ncommits: 12\r\n", "Side: client\r\nCommits: 12\r\n", "side: Client\r\ncommits: 12\r\n", "side: Origin\r\ncommits: 12\r\n", "side: \r\ncommits: 12\r\n", "side: other\r\ncommits: 12\r\n", "side: 0\r\ncommits: 12\r\n",
				"side: client\r\ncommits: 13\r\n", "side: client\r\ncommits: 11\r\n", "side: origin\r\ncommits: 1\r\n", "side: origin\r\ncommits: 0\r\n", "side: origin\r\ncommits: 012\r\n", "side: client\r\ncommits: 12\r\n\r\n", "side: client\r\ncommits: 12\r\nx: y\r\n", "side: client\r\nside: origin\r\ncommits: 12\r\n", "side: origin\r\nside: client\r\ncommits: 12\r\n", "side: origin\r\ncommits: 12\r\ncommits: 12\r\n", "side: client\r\ncommits: <urn:stillroom:12>\r\n", "side: client\r\ncommits: +12\r\n", "side: client\r\ncommits: -12\r\n",
			} {
				checkNoGroup(t, groupWith(l, 2, func(r *impl.Rec) { r.Block = block }), payload)
			}
			eachChange(l[2].Block, func(s string) {
				checkGroup(t, groupWith(l, 2, func(r *impl.Rec) { r.Block = s }), payload)
			})
		}
	}
}

func TestPayloadsOfGroups(t *testing.T) {
	payloads := []string{"", "a", "b", "ab", "ba", "aB", "ab ", " ab", "abab", "ab\r\n", "\r\n\r\n", "\x00\x00", smallExchs()[0].Answer, strings.Repeat("a", impl.MaxBody), strings.Repeat("ab", 1<<18)}
	for _, e := range smallExchs() {
		own := e.Answer[headEndModel(e.Answer):]
		for _, payload := range payloads {
			checkFrom(t, groupOf(e, 12, 0), payload, e)
			if payload == own {
				checkFrom(t, groupOf(e, 12, 5), payload, e)
			} else {
				checkNoGroup(t, groupOf(e, 12, 5), payload)
			}
			// With the label of another payload, its length is still told in the head.
			relabelled := groupWith(groupOf(e, 12, 5), 1, func(r *impl.Rec) { r.Label = labelModel(payload) })
			checkGroup(t, relabelled, payload)
			checkGroup(t, relabelled, own)
		}
		eachChange(own, func(s string) { checkGroup(t, groupOf(e, 12, 5), s) })
	}
	e := smallExchs()[0]
	swapped := groupWith(groupOf(e, 12, 5), 1, func(r *impl.Rec) { r.Label = labelModel("ba") })
	checkFrom(t, swapped, "ba", exchWith(e, func(e *impl.Exch) { e.Answer = strings.Replace(e.Answer, "ab", "ba", 1) }))
	checkNoGroup(t, swapped, "ab")
}

// A head that is cut elsewhere is none, even where the payload brings the rest.
func TestHeadsCutElsewhere(t *testing.T) {
	for _, e := range smallExchs() {
		l := groupOf(e, 12, 5)
		for at := range len(e.Answer) + 1 {
			block, payload := e.Answer[:at], e.Answer[at:]
			cut := groupWith(l, 1, func(r *impl.Rec) { r.Block = block })
			relabelled := groupWith(cut, 1, func(r *impl.Rec) { r.Label = labelModel(payload) })
			if at == headEndModel(e.Answer) {
				checkFrom(t, cut, payload, e)
				continue
			}
			checkNoGroup(t, cut, payload)
			checkNoGroup(t, relabelled, payload)
		}
	}
}

func TestEachChangeOfTheBlocksOfAGroup(t *testing.T) {
	for _, e := range smallExchs() {
		payload := e.Answer[headEndModel(e.Answer):]
		for _, refers := range []int{0, 5} {
			l := groupOf(e, 12, refers)
			eachChange(l[1].Block, func(s string) {
				changed := groupWith(l, 1, func(r *impl.Rec) { r.Block = s })
				checkGroup(t, changed, payload)
				if end := headEndModel(s); end >= 0 && refers == 0 {
					changed[1].Label = labelModel(s[end:])
					checkGroup(t, changed, payload)
				}
			})
		}
		l := groupOf(e, 12, 0)
		eachChange(l[0].Block, func(s string) {
			checkGroup(t, groupWith(l, 0, func(r *impl.Rec) { r.Block = s }), payload)
		})
	}
}

// Each row of records of three groups is held against the rules: just the four rows are taken whose records belong together.
func TestEachRowOfRecords(t *testing.T) {
	client, origin := smallExchs()[0], smallExchs()[1]
	all := slices.Concat(groupOf(client, 12, 0), groupOf(client, 12, 5)[1:2], groupOf(origin, 12, 0), groupOf(client, 13, 0), []impl.Rec{infoRec(12, 7, someInfo)})
	taken := 0
	eachRow(all, 3, func(l []impl.Rec) {
		_, ok := impl.FromRecords(l, "ab")
		taken += oneIf(ok)
		checkGroup(t, l, "ab")
	})
	if taken != 4 {
		t.Errorf("%d rows are taken", taken)
	}
}

func TestGroupsHandedInStay(t *testing.T) {
	for _, e := range append(fewExchs(), smallExchs()...) {
		payload := e.Answer[headEndModel(e.Answer):]
		for _, refers := range []int{0, 5} {
			memory := append(groupOf(e, 12, refers), infoRec(15, 1, "x"), impl.Rec{})
			before := slices.Clone(memory)
			for n := range len(memory) {
				for from := range n {
					impl.FromRecords(memory[from:n], payload)
					impl.FromRecords(memory[from:n], "x")
				}
			}
			if !slices.Equal(memory, before) {
				t.Errorf("%s became %s", groupShown(before), groupShown(memory))
			}
		}
	}
}

func TestRecordsAnsweredAreNewMemory(t *testing.T) {
	for _, e := range smallExchs() {
		for _, refers := range []int{0, 5} {
			first, want := impl.Records(e, 12, refers), groupOf(e, 12, refers)
			other := impl.Records(e, 12, refers)
			all := other[:cap(other)]
			for i := range all {
				all[i] = impl.Rec{Kind: impl.RcInfo, Block: "written into"}
			}
			if !slices.Equal(first, want) || !slices.Equal(impl.Records(e, 12, refers), want) {
				t.Errorf("another answer being written into, the records of %s are %s", exchShown(e), groupShown(first))
			}
		}
	}
}

func TestMessagesOfExchangesAreNewMemory(t *testing.T) {
	for _, e := range fewExchs() {
		ask, _ := readModel(e.Request, false, false)
		answer, _ := readModel(e.Answer, true, ask.Method == "HEAD")
		earlier := []impl.Msg{impl.RequestOf(e), impl.AnswerOf(e)}
		for _, m := range []impl.Msg{impl.RequestOf(e), impl.AnswerOf(e)} {
			all := m.Fields[:cap(m.Fields)]
			for i := range all {
				all[i] = impl.Field{Name: "written", Value: "into"}
			}
		}
		for i, want := range []impl.Msg{ask, answer} {
			again := []impl.Msg{impl.RequestOf(e), impl.AnswerOf(e)}[i]
			if !sameMsg(earlier[i], want) || !sameMsg(again, want) {
				t.Errorf("another answer being written into, %s has %s and then %s", exchShown(e), shown(earlier[i]), shown(again))
			}
		}
	}
}
