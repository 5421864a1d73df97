package tests

import (
	"fmt"
	"regexp"
	"slices"
	"strconv"
	"strings"
	"testing"

	"loop.example/g00651/impl"
)

// urlOf is an address without a query.
func urlOf(host string, port int, path string) impl.Url {
	return impl.Url{Host: host, Port: port, Path: path}
}

// askedOf is an address with a query, which may be empty.
func askedOf(host string, port int, path, query string) impl.Url {
	return impl.Url{Host: host, Port: port, Path: path, Query: query, HasQuery: true}
}

// The rules told in another way: patterns, and dots counted from the right.

var (
	pathForm     = regexp.MustCompile(`^/[!-~]{0,199}$`)
	percentForm  = regexp.MustCompile(`%[0-9a-fA-F]{2}`)
	openForm     = regexp.MustCompile(`^[A-Za-z0-9._~-]$`)
	hostForm     = regexp.MustCompile(`^[a-z0-9-]+(\.[a-z0-9-]+)*$`)
	queryForm    = regexp.MustCompile(`^[!"$-~]*$`)
	addressForm  = regexp.MustCompile(`^(?i:http)://([^/?:]*)(?::([^/?]*))?(/[^?]*)?(\?.*)?$`)
	surtForm     = regexp.MustCompile(`^([^):]*)(?::([^)]*))?\)([^?]*)(\?.*)?$`)
	surtHostForm = regexp.MustCompile(`^[a-z0-9-]+(,[a-z0-9-]+)*$`)
	visibleForm  = regexp.MustCompile(`^[!"$-~]{0,200}$`)
)

func percentModel(s string) string {
	return percentForm.ReplaceAllStringFunc(s, func(part string) string {
		n, _ := strconv.ParseUint(part[1:], 16, 8)
		if openForm.MatchString(latin(string([]byte{byte(n)}))) {
			return string([]byte{byte(n)})
		}
		return fmt.Sprintf("%%%02X", n)
	})
}

// dotsModel goes from the right: each .. takes one of the pieces that come then.
func dotsModel(pieces []string) []string {
	var kept []string
	taken := 0
	for i, piece := range slices.Backward(pieces) {
		dots := piece == "." || piece == ".."
		if dots && i == len(pieces)-1 {
			kept = append(kept, "")
		}
		if piece == ".." {
			taken++
		}
		if dots {
			continue
		}
		if taken > 0 {
			taken--
			continue
		}
		kept = append(kept, piece)
	}
	slices.Reverse(kept)
	return kept
}

func cleanPathModel(p string) string {
	if !pathForm.MatchString(latin(p)) || strings.ContainsAny(p, "#?") {
		return ""
	}
	out := ""
	for _, piece := range dotsModel(strings.Split(percentModel(p), "/")[1:]) {
		out += "/" + piece
	}
	return out
}

func urlTextModel(u impl.Url) string {
	port, query := fmt.Sprintf(":%d", u.Port), "?"+u.Query
	if u.Port == 80 {
		port = ""
	}
	if !u.HasQuery {
		query = ""
	}
	return fmt.Sprintf("http://%s%s%s%s", u.Host, port, u.Path, query)
}

func urlModel(u impl.Url) bool {
	return len(u.Host) <= 60 && hostForm.MatchString(latin(u.Host)) && u.Port >= 1 && u.Port <= 65535 &&
		u.Path != "" && cleanPathModel(u.Path) == u.Path &&
		queryForm.MatchString(latin(u.Query)) && (u.HasQuery || u.Query == "") && len(urlTextModel(u)) <= 200
}

// portModel is -1 for a text that is no port.
func portModel(text string) int {
	if !lengthForm.MatchString(text) {
		return -1
	}
	n, _ := strconv.Atoi(text)
	return n
}

func readUrlModel(s string) (impl.Url, bool) {
	parts := addressForm.FindStringSubmatchIndex(s)
	if parts == nil || !visibleForm.MatchString(latin(s)) {
		return impl.Url{}, false
	}
	u := impl.Url{Host: strings.ToLower(s[parts[2]:parts[3]]), Port: 80, Path: "/"}
	if parts[4] >= 0 {
		u.Port = portModel(s[parts[4]:parts[5]])
	}
	if parts[6] >= 0 {
		u.Path = cleanPathModel(s[parts[6]:parts[7]])
	}
	if parts[8] >= 0 {
		u.Query, u.HasQuery = s[parts[8]+1:parts[9]], true
	}
	if !urlModel(u) {
		return impl.Url{}, false
	}
	return u, true
}

func surtModel(u impl.Url) string {
	text := strings.TrimPrefix(urlTextModel(u), "http://"+u.Host)
	port, rest, _ := strings.Cut(text, "/")
	host := ""
	for _, piece := range strings.Split(u.Host, ".") {
		host = "," + piece + host
	}
	return host[1:] + port + ")/" + rest
}

func unsurtModel(s string) (impl.Url, bool) {
	parts := surtForm.FindStringSubmatchIndex(s)
	if parts == nil || !surtHostForm.MatchString(s[parts[2]:parts[3]]) {
		return impl.Url{}, false
	}
	pieces := strings.Split(s[parts[2]:parts[3]], ",")
	slices.Reverse(pieces)
	u := impl.Url{Host: strings.Join(pieces, "."), Port: 80, Path: s[parts[6]:parts[7]]}
	if parts[4] >= 0 {
		if u.Port = portModel(s[parts[4]:parts[5]]); u.Port == 80 {
			return impl.Url{}, false
		}
	}
	if parts[8] >= 0 {
		u.Query, u.HasQuery = s[parts[8]+1:parts[9]], true
	}
	if !urlModel(u) {
		return impl.Url{}, false
	}
	return u, true
}

func checkClean(t *testing.T, p, want string) {
	t.Helper()
	if got := impl.CleanPath(p); got != want {
		t.Errorf("CleanPath(%.220q) is %.220q, not %.220q", p, got, want)
	}
}

// checkRight holds all that is told of a right address against the rules, and asks for it back from its text and from its Surt.
func checkRight(t *testing.T, u impl.Url) {
	t.Helper()
	text, surt := urlTextModel(u), surtModel(u)
	if !impl.UrlOk(u) {
		t.Errorf("%+v is refused", u)
	}
	if got := impl.UrlText(u); got != text {
		t.Errorf("UrlText(%+v) is %q, not %q", u, got, text)
	}
	if got := impl.Surt(u); got != surt {
		t.Errorf("Surt(%+v) is %q, not %q", u, got, surt)
	}
	host := strings.TrimSuffix(strings.TrimPrefix(urlTextModel(urlOf(u.Host, u.Port, "/")), "http://"), "/")
	if got := impl.HostField(u); got != host {
		t.Errorf("HostField(%+v) is %q, not %q", u, got, host)
	}
	if got, ok := impl.ReadUrl(text); !ok || got != u {
		t.Errorf("ReadUrl(%q) is %+v %v, not %+v", text, got, ok, u)
	}
	if got, ok := impl.Unsurt(surt); !ok || got != u {
		t.Errorf("Unsurt(%q) is %+v %v, not %+v", surt, got, ok, u)
	}
	if got, ok := impl.Canon(text); !ok || got != text {
		t.Errorf("Canon(%q) is %q %v", text, got, ok)
	}
	checkClean(t, u.Path, u.Path)
}

func checkWrong(t *testing.T, u impl.Url) {
	t.Helper()
	if impl.UrlOk(u) {
		t.Errorf("%.250q is ok", fmt.Sprintf("%+v", u))
	}
	if text, host, surt := impl.UrlText(u), impl.HostField(u), impl.Surt(u); text != "" || host != "" || surt != "" {
		t.Errorf("%.250q has %q, %q and %q", fmt.Sprintf("%+v", u), text, host, surt)
	}
}

// checkUrl holds UrlOk against the rules, whatever u is.
func checkUrl(t *testing.T, u impl.Url) {
	t.Helper()
	if urlModel(u) {
		checkRight(t, u)
		return
	}
	checkWrong(t, u)
}

// checkAddress holds ReadUrl and Canon against the rules, whatever s is; what is taken has one form, which is its own.
func checkAddress(t *testing.T, s string) {
	t.Helper()
	want, wantOk := readUrlModel(s)
	if got, ok := impl.ReadUrl(s); got != want || ok != wantOk {
		t.Errorf("ReadUrl(%.220q) is %+v %v, not %+v %v", s, got, ok, want, wantOk)
	}
	form := ""
	if wantOk {
		form = urlTextModel(want)
		checkRight(t, want)
	}
	if got, ok := impl.Canon(s); got != form || ok != wantOk {
		t.Errorf("Canon(%.220q) is %q %v, not %q %v", s, got, ok, form, wantOk)
	}
}

func checkNoAddress(t *testing.T, s string) {
	t.Helper()
	if u, ok := impl.ReadUrl(s); ok || u != (impl.Url{}) {
		t.Errorf("ReadUrl(%.220q) is %+v %v", s, u, ok)
	}
	if form, ok := impl.Canon(s); ok || form != "" {
		t.Errorf("Canon(%.220q) is %q %v", s, form, ok)
	}
}

// checkSurt holds Unsurt against the rules, whatever s is.
func checkSurt(t *testing.T, s string) {
	t.Helper()
	want, wantOk := unsurtModel(s)
	if got, ok := impl.Unsurt(s); got != want || ok != wantOk {
		t.Errorf("Unsurt(%.220q) is %+v %v, not %+v %v", s, got, ok, want, wantOk)
	}
	if wantOk && impl.Surt(want) != s {
		t.Errorf("Surt(%+v) is %q, not %q", want, impl.Surt(want), s)
	}
}

func checkNoSurt(t *testing.T, s string) {
	t.Helper()
	if u, ok := impl.Unsurt(s); ok || u != (impl.Url{}) {
		t.Errorf("Unsurt(%.220q) is %+v %v", s, u, ok)
	}
}

func TestConstantsOfAddresses(t *testing.T) {
	if impl.MaxHost != 60 || impl.MaxPort != 65535 {
		t.Error("a limit is not the document's")
	}
}

func TestDotsInPathsByHand(t *testing.T) {
	for _, c := range []struct{ p, want string }{
		{"/", "/"}, {"//", "//"}, {"///", "///"}, {"/a", "/a"}, {"/a/", "/a/"}, {"/a//", "/a//"}, {"//a", "//a"}, {"/a//b", "/a//b"},
		{"/a/./b/../c", "/a/c"}, {"/a/b/..", "/a/"}, {"/..", "/"}, {"/.", "/"}, {"/./", "/"}, {"/../", "/"}, {"/./.", "/"}, {"/../..", "/"}, {"/../../..", "/"},
		{"/../a", "/a"}, {"/../../a/b", "/a/b"}, {"/./a", "/a"}, {"/a/.", "/a/"}, {"/a/./", "/a/"}, {"/a/..", "/"}, {"/a/../", "/"}, {"/a/../..", "/"}, {"/a/../../b", "/b"},
		{"/a/b/../..", "/"}, {"/a/b/../../", "/"}, {"/a/b/../../..", "/"}, {"/a/b/c/../..", "/a/"}, {"/a/b/c/../../d", "/a/d"}, {"/a/./..", "/"}, {"/a/../.", "/"}, {"/a/b/./..", "/a/"}, {"/a/b/.././", "/a/"},
		{"//..", "/"}, {"/a//..", "/a/"}, {"/a//../b", "/a/b"}, {"/a//../..", "/"}, {"///..", "//"}, {"//../a", "/a"}, {"/..//a", "//a"}, {"/a/..//b", "//b"}, {"/.//a", "//a"}, {"/.//", "//"}, {"/..//", "//"},
		{"/...", "/..."}, {"/....", "/...."}, {"/a/...", "/a/..."}, {"/.../..", "/"}, {"/.a", "/.a"}, {"/a.", "/a."}, {"/..a", "/..a"}, {"/a..", "/a.."}, {"/.a./..b../c.d", "/.a./..b../c.d"}, {"/a/.../b", "/a/.../b"},
		{"/.,/..;/.:", "/.,/..;/.:"}, {"/A/b/~c_d-e", "/A/b/~c_d-e"}, {"/!\"$&'()*+,-:;<=>@[\\]^`{|}~", "/!\"$&'()*+,-:;<=>@[\\]^`{|}~"},
	} {
		checkClean(t, c.p, c.want)
		if got := cleanPathModel(c.p); got != c.want {
			t.Errorf("the rules make %q of %q, not %q", got, c.p, c.want)
		}
	}
}

func TestPercentsInPathsByHand(t *testing.T) {
	for _, c := range []struct{ p, want string }{
		{"/%41", "/A"}, {"/%61%7a%5A%5a", "/azZZ"}, {"/%30%39", "/09"}, {"/%2d%2e%5f%7e", "/-._~"}, {"/%2D%2E%5F%7E", "/-._~"}, {"/a%41b", "/aAb"},
		{"/%2f", "/%2F"}, {"/%2F", "/%2F"}, {"/a%2fb", "/a%2Fb"}, {"/a%2f..", "/a%2F.."}, {"/a%2f../b", "/a%2F../b"}, {"/%2f%2F/..", "/"}, {"/%2f/a", "/%2F/a"},
		{"/%00%20%23%3f%7f%80%fF%Fe", "/%00%20%23%3F%7F%80%FF%FE"}, {"/%25", "/%25"}, {"/%40%5b%5b%60%7b%3a", "/%40%5B%5B%60%7B%3A"}, {"/%2b%2c", "/%2B%2C"},
		{"/%2e", "/"}, {"/%2e%2e", "/"}, {"/%2E%2e", "/"}, {"/.%2e", "/"}, {"/%2e.", "/"}, {"/a/%2e", "/a/"}, {"/a/%2e%2e", "/"}, {"/a/b/.%2E/c", "/a/c"}, {"/a/%2e/b", "/a/b"}, {"/%2e%2E/x", "/x"},
		{"/%2e%2e%2e", "/..."}, {"/%2ea", "/.a"}, {"/a%2e", "/a."}, {"/%2e%2ea/b", "/..a/b"}, {"/a/%2e%2e%2f", "/a/..%2F"},
		{"/%", "/%"}, {"/%4", "/%4"}, {"/%a", "/%a"}, {"/%4g", "/%4g"}, {"/%g4", "/%g4"}, {"/%zz%4", "/%zz%4"}, {"/%4/1", "/%4/1"}, {"/%/41", "/%/41"}, {"/%-1", "/%-1"}, {"/%+1", "/%+1"}, {"/%0x", "/%0x"}, {"/%x41", "/%x41"},
		{"/%ag", "/%ag"}, {"/%aG", "/%aG"}, {"/%a%", "/%a%"}, {"/%%", "/%%"}, {"/%%%", "/%%%"}, {"/%%41", "/%A"}, {"/%%%41", "/%%A"}, {"/a%", "/a%"}, {"/%/", "/%/"}, {"/%/..", "/"}, {"/%./a", "/%./a"},
		{"/%411", "/A1"}, {"/%4141", "/A41"}, {"/%41%41", "/AA"}, {"/%2fa", "/%2Fa"}, {"/%aaa", "/%AAa"}, {"/%aaaa", "/%AAaa"},
		{"/%41%2f%7e", "/A%2F~"}, {"/a%c3%a4/%C3%84", "/a%C3%A4/%C3%84"},
	} {
		checkClean(t, c.p, c.want)
		if got := cleanPathModel(c.p); got != c.want {
			t.Errorf("the rules make %q of %q, not %q", got, c.p, c.want)
		}
	}
}

// A % or a digit that comes out of one is not looked at again, though it stands like another; a second reading would take it, so no address has such a path.
func TestPercentsThatComeOutAreNotLookedAtAgain(t *testing.T) {
	for _, c := range []struct{ p, want, again string }{
		{"/%4%31", "/%41", "/A"}, {"/%%341", "/%41", "/A"}, {"/%%34%31", "/%41", "/A"}, {"/%2%65", "/%2e", "/"}, {"/%2%45%2%45", "/%2E%2E", "/"}, {"/a/%%32e.", "/a/%2e.", "/"},
		{"/%%32f", "/%2f", "/%2F"}, {"/%2%66", "/%2f", "/%2F"}, {"/%%61%62", "/%ab", "/%AB"}, {"/%a%62", "/%ab", "/%AB"}, {"/%%41%42", "/%AB", "/%AB"}, {"/%2%46", "/%2F", "/%2F"},
		{"/%2541", "/%2541", "/%2541"}, {"/%252e", "/%252e", "/%252e"}, {"/%25%34%31", "/%2541", "/%2541"}, {"/%25%32%65", "/%252e", "/%252e"}, {"/%2525", "/%2525", "/%2525"}, {"/%252f", "/%252f", "/%252f"}, {"/%%2541", "/%%2541", "/%%2541"},
		{"/%25%2e", "/%25.", "/%25."}, {"/%25%2541", "/%25%2541", "/%25%2541"},
	} {
		checkClean(t, c.p, c.want)
		checkClean(t, c.want, c.again)
		own := c.want == c.again
		if impl.UrlOk(urlOf("a", 80, c.want)) != own {
			t.Errorf("an address of the path %q is ok: %v", c.want, !own)
		}
		if own {
			checkAddress(t, "http://a"+c.p)
			checkRight(t, urlOf("a", 80, c.want))
			continue
		}
		checkNoAddress(t, "http://a"+c.p)
		checkNoAddress(t, "http://a"+c.p+"?q")
		checkNoSurt(t, "a)"+c.want)
	}
}

func TestPercentsOfEachByte(t *testing.T) {
	open := "ABCDEFGHIJKLMNOPQRSTUVWXYZabcdefghijklmnopqrstuvwxyz0123456789-._~"
	for i := range 256 {
		want := fmt.Sprintf("%%%02X", i)
		if strings.IndexByte(open, byte(i)) >= 0 {
			want = string([]byte{byte(i)})
		}
		small, great := fmt.Sprintf("%%%02x", i), fmt.Sprintf("%%%02X", i)
		for _, written := range []string{small, great, small[:2] + great[2:], great[:2] + small[2:]} {
			checkClean(t, "/x"+written, "/x"+want)
			checkClean(t, "/x"+written+written+"y/", "/x"+want+want+"y/")
			checkClean(t, "/"+written+"x/y", "/"+want+"x/y")
			checkClean(t, "/%"+written+"x", "/%"+want+"x")
			checkAddress(t, "http://a/"+written)
			checkAddress(t, "http://a/x"+written+"?"+written)
			// A % in a query stands as it is.
			checkRight(t, askedOf("a", 80, "/", written))
		}
	}
}

// The two bytes behind a %, whatever they are.
func TestPercentsWithEachTwoBytes(t *testing.T) {
	for first := 30; first <= 130; first++ {
		for second := 30; second <= 130; second++ {
			p := "/%" + string([]byte{byte(first), byte(second)})
			checkClean(t, p, cleanPathModel(p))
			checkClean(t, p+"0", cleanPathModel(p+"0"))
		}
	}
}

func TestCleanPathRefuses(t *testing.T) {
	for _, p := range []string{
		"", "a", ".", "..", "a/", "a/b", "%2fa", "%2Fa", " /a", "\\a", "http://a/", "?", "#", "/?", "/#", "/a?b", "/a?", "/a#b", "/a#", "?/a", "#/a", "/a?/..", "/a#/..",
		"/ ", "/a b", "/a ", "/\t", "/a\r\n", "/a\n", "/\x00", "/\x1f", "/\x7f", "/a\x7fb", "/\x80", "/\xff", "/\xc3\xa4", "/\u212a", "/\u0161", "/a/ /..", "/\x80/..", "/\xe2\x84", "/%\xff41",
	} {
		checkClean(t, p, "")
		checkWrong(t, urlOf("a", 80, p))
		checkWrong(t, askedOf("a", 80, p, "q"))
	}
}

func TestEachByteOfAPath(t *testing.T) {
	for i := range 256 {
		s := string([]byte{byte(i)})
		right := i >= 33 && i <= 126 && i != '#' && i != '?'
		for _, p := range []string{"/x" + s, "/x" + s + "y", "/x/" + s + "/y", "/x/" + s, "/" + s + "/.."} {
			if (impl.CleanPath(p) != "") != right {
				t.Errorf("CleanPath(%q) is %q", p, impl.CleanPath(p))
			}
			checkClean(t, p, cleanPathModel(p))
			checkUrl(t, urlOf("a", 80, p))
		}
		if (impl.CleanPath(s+"/x") != "") != (i == '/') || (impl.CleanPath(s) != "") != (i == '/') {
			t.Errorf("a path that begins with %q", s)
		}
	}
}

func TestHowLongAPathIs(t *testing.T) {
	for n := range 4 * impl.MaxTarget {
		for _, tail := range []string{"", "/", "/..", "/.", "%41", "%2f", "%4"} {
			p := "/" + strings.Repeat("p", n) + tail
			want := ""
			if len(p) <= impl.MaxTarget {
				want = cleanPathModel(p)
			}
			checkClean(t, p, want)
			if (len(p) <= impl.MaxTarget) != (impl.CleanPath(p) != "") {
				t.Errorf("a path of %d bytes gives %q", len(p), impl.CleanPath(p))
			}
		}
	}
	// What counts is how long a path comes in.
	checkClean(t, strings.Repeat("/", impl.MaxTarget), strings.Repeat("/", impl.MaxTarget))
	checkClean(t, strings.Repeat("/", impl.MaxTarget+1), "")
	checkClean(t, strings.Repeat("/.", impl.MaxTarget/2), "/")
	checkClean(t, strings.Repeat("/.", impl.MaxTarget/2)+"/", "")
	checkClean(t, "/"+strings.Repeat("%41", 66)+"x", "/"+strings.Repeat("A", 66)+"x")
	checkClean(t, "/"+strings.Repeat("%41", 66)+"xy", "")
	checkClean(t, strings.Repeat("/..", 1<<20), "")
}

func TestCleanPathOfEachShortText(t *testing.T) {
	eachText("/.%2eE4x", 6, func(s string) {
		checkClean(t, "/"+s, cleanPathModel("/"+s))
	})
	eachText("/.a?# \xff", 5, func(s string) {
		checkClean(t, s, cleanPathModel(s))
	})
}

func TestCleanPathOfEachRowOfPieces(t *testing.T) {
	eachPieces([]string{"/", "/.", "/..", "/a", "/%2e", "/.%2E", "/...", "%41", "%4", "%2f"}, 5, func(p string) {
		checkClean(t, p, cleanPathModel(p))
	})
	eachPieces([]string{"/", "/.", "/..", "/b"}, 8, func(p string) {
		checkClean(t, p, cleanPathModel(p))
	})
}

// Where no % becomes part of another, one form of a path is its own.
func TestOneFormOfAPathIsItsOwn(t *testing.T) {
	eachPieces([]string{"/", "/.", "/..", "/a", "/%2e%2e", "%41", "%2f", "%zz", "%25"}, 5, func(p string) {
		form := impl.CleanPath(p)
		checkClean(t, form, form)
	})
}

func rightUrls() []impl.Url {
	list := []impl.Url{
		urlOf("a", 80, "/"), urlOf("a", 8080, "/"), urlOf("a", 1, "/"), urlOf("a", impl.MaxPort, "/"), urlOf("a", 79, "/"), urlOf("a", 81, "/"), urlOf("a", 8, "/"), urlOf("a", 800, "/"), urlOf("a", 443, "/x"),
		urlOf("www.b.example", 80, "/x"), urlOf("0", 80, "/"), urlOf("-", 80, "/"), urlOf("--.-", 80, "/"), urlOf("127.0.0.1", 8000, "/"), urlOf("a-b.c-d.0-9", 80, "/"), urlOf("z9.y8.x7.w6.v5", 80, "/"), urlOf("1.80", 80, "/80"),
		urlOf("a", 80, "//"), urlOf("a", 80, "//a//"), urlOf("a", 80, "/a/"), urlOf("a", 80, "/..."), urlOf("a", 80, "/a%2Fb"), urlOf("a", 80, "/%"), urlOf("a", 80, "/%4"), urlOf("a", 80, "/%zz%25"), urlOf("a", 80, "/):,)"), urlOf("a", 81, "/)/:80)/,x"), urlOf("a", 80, "/http://b:80/"), urlOf("a", 80, "/!\"$&'()*+,-:;<=>@[\\]^`{|}~"),
		askedOf("www.b.example", 8080, "/x", "y"), askedOf("a", 80, "/", ""), askedOf("a", 8080, "/", ""), askedOf("a", 80, "/x", "?"), askedOf("a", 80, "/x", "x?y?"), askedOf("a", 80, "/x/", "/"), askedOf("a", 80, "/x/", "/../."), askedOf("a", 80, "/x", "%41%2e%zz%"),
		askedOf("a", 80, "/x", ")"), askedOf("a", 80, "/x", ":80)/x?"), askedOf("a.b", 80, "/x", "a=b&c=d"), askedOf("a.b", 80, "/", "http://c/"), askedOf("a", 80, "/", "!\"$%&'()*+,-./:;<=>?@[\\]^_`{|}~"), askedOf("a", 80, "/)", ")"),
	}
	for _, n := range []int{1, 2, impl.MaxHost - 1, impl.MaxHost} {
		list = append(list, urlOf(strings.Repeat("h", n), 80, "/"), askedOf(strings.Repeat("h", n), 9, "/p", "q"))
	}
	list = append(list, urlOf(strings.Repeat("a.", impl.MaxHost/2-1)+"bc", 80, "/"), urlOf("ab"+strings.Repeat(".c", impl.MaxHost/2-1), 99, "/"))
	return append(list, longUrls(impl.MaxTarget)...)
}

// longUrls are addresses whose texts have n bytes each, by their path or by their query.
func longUrls(n int) []impl.Url {
	var list []impl.Url
	for _, u := range []impl.Url{
		urlOf("a", 80, "/"), urlOf("a", 8080, "/"), urlOf(strings.Repeat("h", impl.MaxHost), impl.MaxPort, "/"), askedOf("a", 80, "/", ""), askedOf("a", 1, "/", "x"), askedOf("a.b", 65535, "/p/", "?"),
	} {
		left := n - len(urlTextModel(u))
		long := u
		long.Path += strings.Repeat("p", left)
		list = append(list, long)
		if u.HasQuery {
			u.Query += strings.Repeat("q", left)
			list = append(list, u)
		}
	}
	return list
}

// wrongUrls are no addresses, each for one reason alone.
func wrongUrls() []impl.Url {
	list := []impl.Url{
		{}, {Port: 80, Path: "/"}, {Host: "a", Path: "/"}, {Host: "a", Port: 80}, {Host: "a", Port: 80, Query: "q", HasQuery: true}, {Host: "a", Port: 80, HasQuery: true}, {HasQuery: true},
		{Host: "a", Port: 80, Path: "/", Query: "q"}, {Host: "a", Port: 80, Path: "/", Query: "?"}, {Host: "a.b", Port: 8080, Path: "/x", Query: "a=b"},
	}
	for _, host := range []string{
		".", "..", ".a", "a.", "a..b", ".a.b", "a.b.", "...", "A", "a.B", "aZ", "a b", " a", "a ", "a_b", "a:", "a:80", ":", "a/b", "/", "a?", "?", "a#", "a,b", ",", "a)", ")", "a@b", "a%41", "%41", "[1]", "*", "a\x00", "a\n", "a\x7f", "\x80", "\xe4", "\u0161", "a\u0161", "\u212a", "\xc5\xa1.a", "~", "a`", "a{", "a!",
		strings.Repeat("h", impl.MaxHost+1), strings.Repeat("a.", impl.MaxHost/2) + "b", strings.Repeat("h", impl.MaxTarget), strings.Repeat("h", 1<<20), strings.Repeat(".", impl.MaxHost),
	} {
		list = append(list, urlOf(host, 80, "/"))
	}
	for _, port := range []int{0, -1, -80, impl.MaxPort + 1, 65616, 1 << 20, 1<<32 + 80, 1<<16 + 80, impl.MaxNum, impl.MaxNum + 1, 1<<63 - 1, -1 << 63} {
		list = append(list, urlOf("a", port, "/"))
	}
	for _, path := range []string{
		"a", "x/", "?", ".", "..", "/.", "/..", "/./", "/a/.", "/a/..", "/a/./b", "/../a", "/a/../b", "//..", "/%41", "/%7e", "/%2e", "/%2E%2E/", "/%2f", "/%aF", "/%Af", "/%30", "/a?", "/?", "/a?b", "/a#b", "/#", "/a b", "/\xe4", "/\x7f", "/\u0161", "/\n", "/%%41", "/x%5F",
		"/" + strings.Repeat("p", impl.MaxTarget), "/" + strings.Repeat("p", 1<<20),
	} {
		list = append(list, urlOf("a", 80, path), askedOf("a", 80, path, "q"))
	}
	for _, query := range []string{"#", "a#b", "a#", "#a", " ", "a b", "a ", "\t", "\x00", "\x1f", "\x7f", "\x80", "\xff", "\xc3\xa4", "\u0161", "\r\n", "a\n", strings.Repeat("q", impl.MaxTarget), strings.Repeat("q", 1<<20)} {
		list = append(list, askedOf("a", 80, "/", query), askedOf("b.c", 8080, "/x", query))
	}
	return append(list, longUrls(impl.MaxTarget+1)...)
}

func TestRightAddresses(t *testing.T) {
	for _, u := range rightUrls() {
		if !urlModel(u) {
			t.Errorf("the rules refuse %+v", u)
		}
		checkRight(t, u)
	}
}

func TestWrongAddresses(t *testing.T) {
	for _, u := range wrongUrls() {
		if urlModel(u) {
			t.Errorf("the rules take %+v", u)
		}
		checkWrong(t, u)
	}
}

func TestAddressesByHand(t *testing.T) {
	for _, c := range []struct {
		u                impl.Url
		text, host, surt string
	}{
		{urlOf("a", 80, "/"), "http://a/", "a", "a)/"},
		{urlOf("a.b", 81, "/"), "http://a.b:81/", "a.b:81", "b,a:81)/"},
		{urlOf("www.b.example", 80, "/x/y"), "http://www.b.example/x/y", "www.b.example", "example,b,www)/x/y"},
		{askedOf("www.b.example", 8080, "/x", "y"), "http://www.b.example:8080/x?y", "www.b.example:8080", "example,b,www:8080)/x?y"},
		{askedOf("a.b", 80, "/", ""), "http://a.b/?", "a.b", "b,a)/?"},
		{askedOf("a.b", 65535, "/p", "x?y"), "http://a.b:65535/p?x?y", "a.b:65535", "b,a:65535)/p?x?y"},
		{askedOf("1.2.3.4", 1, "/)", ")?)"), "http://1.2.3.4:1/)?)?)", "1.2.3.4:1", "4,3,2,1:1)/)?)?)"},
	} {
		if text, host, surt := impl.UrlText(c.u), impl.HostField(c.u), impl.Surt(c.u); text != c.text || host != c.host || surt != c.surt {
			t.Errorf("%+v has %q, %q and %q", c.u, text, host, surt)
		}
		checkRight(t, c.u)
	}
}

func TestEachByteOfAHost(t *testing.T) {
	for i := range 256 {
		s := string([]byte{byte(i)})
		sign := strings.IndexByte("abcdefghijklmnopqrstuvwxyz0123456789-", byte(i)) >= 0
		for host, want := range map[string]bool{s: sign, "a" + s: sign, s + "a": sign, "a" + s + "a": sign || s == ".", "a." + s + ".b": sign, s + s: sign} {
			if impl.UrlOk(urlOf(host, 80, "/")) != want {
				t.Errorf("a host %q is ok: %v", host, !want)
			}
			checkUrl(t, askedOf(host, 8080, "/x", ""))
			checkAddress(t, "http://"+host)
			checkAddress(t, "http://"+host+"/x")
			checkSurt(t, host+")/x")
		}
	}
}

func TestEachByteOfAQuery(t *testing.T) {
	for i := range 256 {
		s := string([]byte{byte(i)})
		right := i >= 33 && i <= 126 && i != '#'
		for _, query := range []string{s, "a" + s, s + "a", "a" + s + "b"} {
			if impl.UrlOk(askedOf("a", 80, "/", query)) != right {
				t.Errorf("a query %q is ok: %v", query, !right)
			}
			checkUrl(t, askedOf("b.a", 90, "/x", query))
			checkWrong(t, impl.Url{Host: "a", Port: 80, Path: "/", Query: query})
			checkAddress(t, "http://a?"+query)
			checkAddress(t, "http://a/x?"+query)
			checkSurt(t, "a)/x?"+query)
		}
	}
}

func TestEveryShortHost(t *testing.T) {
	eachText("a0-.A", 5, func(host string) {
		checkUrl(t, urlOf(host, 80, "/"))
		checkAddress(t, "http://"+host+"/")
		checkAddress(t, "http://"+host+":81?")
	})
	eachText("ab,.-", 5, func(host string) {
		checkSurt(t, host+")/")
		checkSurt(t, host+":7)/?")
	})
}

func TestEveryPort(t *testing.T) {
	for port := -3; port <= impl.MaxPort+3; port++ {
		u := urlOf("a.b", port, "/")
		right := port >= 1 && port <= impl.MaxPort
		if impl.UrlOk(u) != right {
			t.Fatalf("a port of %d is ok: %v", port, !right)
		}
		got, ok := impl.ReadUrl(fmt.Sprintf("http://a.b:%d", port))
		if ok != right || ok && got != u {
			t.Fatalf("the port %d is read as %+v %v", port, got, ok)
		}
		got, ok = impl.Unsurt(fmt.Sprintf("b,a:%d)/", port))
		if ok != (right && port != 80) || ok && got != u {
			t.Fatalf("the port %d of a Surt is read as %+v %v", port, got, ok)
		}
	}
}

func TestPortsThatAreRefused(t *testing.T) {
	for _, port := range []string{
		"", "0", "00", "080", "08080", "01", "001", "+80", "-80", "-1", " 80", "80 ", "8 0", "8_0", "80a", "a80", "a", "http", "0x50", "8e1", "80.", "80.0", "80,", "65536", "65616", "131152", "4294967376", "18446744073709551696", "999999999999999", "1000000000000000", "99999999999999999999",
		"80:", ":80", ":", "80:80", "81:80", "80:81", ":81", "::", "80)", "%38%30", "\xb2",
	} {
		for _, rest := range []string{"", "/", "/x", "?", "?q", "/?"} {
			checkNoAddress(t, "http://a:"+port+rest)
			checkNoSurt(t, "a:"+port+")"+rest)
		}
		checkNoSurt(t, "a:"+port)
	}
}

func TestReadUrlByHand(t *testing.T) {
	for _, c := range []struct {
		s    string
		want impl.Url
	}{
		{"http://a", urlOf("a", 80, "/")}, {"http://a/", urlOf("a", 80, "/")}, {"http://a//", urlOf("a", 80, "//")}, {"http://a:80", urlOf("a", 80, "/")}, {"http://a:80/", urlOf("a", 80, "/")}, {"http://a:81", urlOf("a", 81, "/")}, {"http://a:1/b", urlOf("a", 1, "/b")}, {"http://a:65535/b", urlOf("a", 65535, "/b")},
		{"HTTP://A.b:8080?x?y", askedOf("a.b", 8080, "/", "x?y")}, {"HtTp://WWW.B.Example/X", urlOf("www.b.example", 80, "/X")}, {"http://A-Z.0-9/", urlOf("a-z.0-9", 80, "/")}, {"hTTP://a/HTTP://A/", urlOf("a", 80, "/HTTP://A/")},
		{"http://a?", askedOf("a", 80, "/", "")}, {"http://a?x", askedOf("a", 80, "/", "x")}, {"http://a/?", askedOf("a", 80, "/", "")}, {"http://a/?x", askedOf("a", 80, "/", "x")}, {"http://a?/", askedOf("a", 80, "/", "/")}, {"http://a?/x/../y", askedOf("a", 80, "/", "/x/../y")}, {"http://a??", askedOf("a", 80, "/", "?")}, {"http://a?x:80", askedOf("a", 80, "/", "x:80")}, {"http://a:81?:82", askedOf("a", 81, "/", ":82")},
		{"http://a/x:80", urlOf("a", 80, "/x:80")}, {"http://a/:", urlOf("a", 80, "/:")}, {"http://a/b@c", urlOf("a", 80, "/b@c")}, {"http://a/x?A%41%2f", askedOf("a", 80, "/x", "A%41%2f")},
		{"http://a/..", urlOf("a", 80, "/")}, {"http://a/x/..", urlOf("a", 80, "/")}, {"http://a/../x/./y/../z?..", askedOf("a", 80, "/x/z", "..")}, {"http://a/%41%2f%7E", urlOf("a", 80, "/A%2F~")}, {"http://a/%2e%2e/x", urlOf("a", 80, "/x")}, {"http://a/%3f?%3f", askedOf("a", 80, "/%3F", "%3f")}, {"http://a/%23", urlOf("a", 80, "/%23")}, {"http://a/%zz%", urlOf("a", 80, "/%zz%")},
		{"http://0", urlOf("0", 80, "/")}, {"http://-", urlOf("-", 80, "/")}, {"http://1.2.3.4:5/6?7", askedOf("1.2.3.4", 5, "/6", "7")},
	} {
		got, ok := impl.ReadUrl(c.s)
		if !ok || got != c.want {
			t.Errorf("ReadUrl(%q) is %+v %v, not %+v", c.s, got, ok, c.want)
		}
		checkAddress(t, c.s)
	}
}

func TestReadUrlRefuses(t *testing.T) {
	for _, s := range []string{
		"", "a", "/", "/a", "//a/", "http", "http:", "http:/", "http:/a/", "http:a/", "http//a/", "http:///", "http:///a", "http://", "http://?", "http://?q", "http://:", "http://:80", "http://:80/", "http:// ", "http://.", "http://./", "http://../",
		"https://a/", "htt://a/", "httpx://a/", "xhttp://a/", " http://a/", "http ://a/", "http: //a/", "http:\\\\a\\", "ftp://a/", "ws://a/", "urn:a", "a:80", "a/b", "a.b", "*", "shttp://a/", "hhttp://a/", "http:////a/", "\u0125ttp://a/", "HTTPS://a/", "http;//a/", "hTTp:/\\a",
		"http://a..b/", "http://.a/", "http://a./", "http://a_b/", "http://a b/", "http://a%41/", "http://%61/", "http://u@a/", "http://u:p@a/", "http://[::1]/", "http://a,b/", "http://a)/", "http://a\\b/", "http://a;b", "http://\xe4/", "http://\u0161/", "http://\u212a/", "http://a\u0161/", "http://*/",
		"http://a/#x", "http://a#", "http://a/#", "http://a?#", "http://a/?q#x", "http://a#b/", "#http://a/", "http://a:80#", "http://a/b#c?d",
		"http://a/ ", "http://a/b c", "http://a/\xe4", "http://a/\x7f", "http://a/\n", "http://a/\r\n", "http://a/?\xe4", "http://a/?b c", "http://a/?\x7f", "http://a?\t", "http://a/\x00", "http://a/\u0161", " ", "\xff",
	} {
		checkNoAddress(t, s)
		if _, ok := readUrlModel(s); ok {
			t.Errorf("the rules take %q", s)
		}
	}
	checkNoAddress(t, strings.Repeat("http://a/", 1<<18))
}

func TestGreatAndSmallLetters(t *testing.T) {
	for _, begin := range []string{"http://", "HTTP://", "Http://", "hTTp://", "httP://"} {
		got, ok := impl.Canon(begin + "WwW.eXample:80/A/b?C")
		if !ok || got != "http://www.example/A/b?C" {
			t.Errorf("an address behind %q is %q %v", begin, got, ok)
		}
	}
	// Other letters than those of http stay as they are, in the path and the query.
	for i := range 256 {
		s := string([]byte{byte(i)})
		checkAddress(t, s+"ttp://a/")
		checkAddress(t, "htt"+s+"://a/")
		checkAddress(t, "http"+s+"//a/")
		checkAddress(t, "http:"+s+"/a/")
		checkAddress(t, "http:/"+s+"a/")
		checkAddress(t, "http://a"+s)
		checkAddress(t, "http://a/"+s+"?"+s)
	}
}

func TestHowLongAHostIs(t *testing.T) {
	for n := range 2*impl.MaxHost + 10 {
		host := strings.Repeat("h", n)
		right := n >= 1 && n <= impl.MaxHost
		if impl.UrlOk(urlOf(host, 80, "/")) != right || impl.UrlOk(askedOf(host, 81, "/", "")) != right {
			t.Errorf("a host of %d bytes is ok: %v", n, !right)
		}
		if _, ok := impl.ReadUrl("http://" + host); ok != right {
			t.Errorf("a host of %d bytes is read: %v", n, !right)
		}
		if _, ok := impl.Unsurt(host + ")/"); ok != right {
			t.Errorf("a host of %d bytes is read from a Surt: %v", n, !right)
		}
	}
}

func TestHowLongAnAddressIs(t *testing.T) {
	for n := impl.MaxTarget - 20; n <= impl.MaxTarget+20; n++ {
		right := n <= impl.MaxTarget
		for _, u := range longUrls(n) {
			checkUrl(t, u)
			if impl.UrlOk(u) != right {
				t.Errorf("an address of %d bytes is ok: %v", n, !right)
			}
			if got, ok := impl.ReadUrl(urlTextModel(u)); ok != right || ok && got != u {
				t.Errorf("an address of %d bytes is read: %v", n, ok)
			}
			if got, ok := impl.Unsurt(surtModel(u)); ok != right || ok && got != u {
				t.Errorf("the Surt of an address of %d bytes is read: %v", n, ok)
			}
		}
	}
}

// An address without a path gets a byte that it had not, and is refused if that is one too many; one that gets shorter is refused by its bytes as they come in.
func TestAddressesThatGrowAndShrink(t *testing.T) {
	for n := impl.MaxTarget - 20; n <= impl.MaxTarget+20; n++ {
		for begin, grows := range map[string]int{
			"http://a?": 1, "http://a:81?": 1, "http://a/?": 0, "http://a/": 0, "http://a:80/": 0, "http://a:80?": 0, "http://a/x/../": 0, "http://a/%41": 0, "http://a/./": 0, "HTTP://A/": 0, "http://a/%2e%2E/%2f?": 0,
		} {
			s := begin + strings.Repeat("x", n-len(begin))
			checkAddress(t, s)
			right := n+grows <= impl.MaxTarget
			if _, ok := impl.ReadUrl(s); ok != right {
				t.Errorf("%q, of %d bytes, is read: %v", s, n, ok)
			}
		}
	}
	host := strings.Repeat("h", impl.MaxHost)
	checkAddress(t, "http://"+host)
	checkAddress(t, "http://"+host+"/"+strings.Repeat("%41", 44))
	checkAddress(t, "http://"+host+"/"+strings.Repeat("%41", 44)+"x")
}

func TestUnsurtByHand(t *testing.T) {
	for _, c := range []struct {
		s    string
		want impl.Url
	}{
		{"a)/", urlOf("a", 80, "/")}, {"b,a)/", urlOf("a.b", 80, "/")}, {"example,b,www:8080)/x?y", askedOf("www.b.example", 8080, "/x", "y")}, {"example,b,www)/x?", askedOf("www.b.example", 80, "/x", "")}, {"a:1)/", urlOf("a", 1, "/")}, {"a:65535)/", urlOf("a", 65535, "/")}, {"a:8)/", urlOf("a", 8, "/")}, {"a:800)/", urlOf("a", 800, "/")},
		{"a)//", urlOf("a", 80, "//")}, {"a)/)", urlOf("a", 80, "/)")}, {"a)/:80)", urlOf("a", 80, "/:80)")}, {"a)/?)/", askedOf("a", 80, "/", ")/")}, {"4,3,2,1)/a,b.c", urlOf("1.2.3.4", 80, "/a,b.c")}, {"-)/??", askedOf("-", 80, "/", "?")}, {"a)/%2F%zz", urlOf("a", 80, "/%2F%zz")}, {"a)/?%41", askedOf("a", 80, "/", "%41")},
	} {
		got, ok := impl.Unsurt(c.s)
		if !ok || got != c.want {
			t.Errorf("Unsurt(%q) is %+v %v, not %+v", c.s, got, ok, c.want)
		}
		checkSurt(t, c.s)
		checkRight(t, c.want)
	}
}

func TestUnsurtRefuses(t *testing.T) {
	for _, s := range []string{
		"", ")", ")/", "/", "a", "a/", "a)", "a)?", "a)?q", "a)x", "a)x/", "a))/", "a) /", ")a)/", "a(/", "a,b", "a,b/x", "a:81/", "a:81", "a.b/x", "http://a/", "a)http://a/", "http://a)/", "(a)/", "http://(a)/", " a)/", "a )/",
		",)/", ",a)/", "a,)/", "a,,b)/", ",,)/", "a,b,)/", ",a,b)/", ", a)/", "a, b)/", "a.b)/", "a.b,c)/", "c,a.b)/", ".)/", "a.)/", ".a)/", "a,.)/", ".,a)/", "A)/", "a,B)/", "a_b)/", "a@b)/", "a%41)/", "a/b)/", "a?b)/", "a#)/", "\xe4)/", "\u0161)/", "a,\u212a)/", "\x00)/", "a\n)/",
		"a:80)/", "b,a:80)/x", "a:80)/?", "a:)/", "a:0)/", "a:080)/", "a:081)/", "a:65536)/", "a:81:)/", "a:81:82)/", ":81)/", ":)/", "a:b)/", "a:-1)/", "a:+81)/", "a:81 )/", "a:81,b)/", "a,:81)/", "a:99999999999999999999)/",
		"a)/.", "a)/..", "a)/./", "a)/a/../b", "a)/a/./b", "a)/../", "a)//..", "a)/%41", "a)/%2f", "a)/%2e", "a)/%7E", "a)/%aF", "a)/%%41", "a)/ ", "a)/\xe4", "a)/#", "a)/x#y", "a)/?#", "a)/?a b", "a)/?\x7f", "a)/?\xe4", "a)/\x7f", "a)/\r\n", "a)/\n", "a)/?\n",
		strings.Repeat("h", impl.MaxHost+1) + ")/", strings.Repeat("a,", impl.MaxHost/2) + "b)/", "a)/" + strings.Repeat("p", impl.MaxTarget), "a)/?" + strings.Repeat("q", impl.MaxTarget), strings.Repeat("a,", 1<<18) + "a)/", strings.Repeat(")", 1<<18), strings.Repeat(",", 1<<18),
	} {
		checkNoSurt(t, s)
		if _, ok := unsurtModel(s); ok {
			t.Errorf("the rules take %.60q", s)
		}
	}
	// What is no address has no Surt, so the empty text is none of an address either.
	for _, u := range wrongUrls() {
		if impl.Surt(u) != "" {
			t.Errorf("Surt(%+v) is %q", u, impl.Surt(u))
		}
	}
}

// The text of an address is no Surt, and a Surt is no address.
func TestTextsAndSurtsAreApart(t *testing.T) {
	for _, u := range rightUrls() {
		checkNoSurt(t, impl.UrlText(u))
		checkNoAddress(t, impl.Surt(u))
		checkNoAddress(t, impl.HostField(u))
	}
}

// Two addresses never have the same text or the same Surt.
func TestAddressesHaveTextsOfTheirOwn(t *testing.T) {
	texts, surts := map[string]impl.Url{}, map[string]impl.Url{}
	count := 0
	for _, host := range []string{"a", "b", "a.b", "b.a", "a.b.c", "ab", "a-b", "8", "80", "a.80", "80.a"} {
		for _, port := range []int{80, 8, 1, 8080, 65535} {
			for _, path := range []string{"/", "//", "/a", "/a/", "/)", "/:80", "/,", "/a%2Fb", "/A", "/%", "/a)/"} {
				for _, u := range []impl.Url{urlOf(host, port, path), askedOf(host, port, path, ""), askedOf(host, port, path, "?"), askedOf(host, port, path, "a"), askedOf(host, port, path, "/a")} {
					checkRight(t, u)
					texts[impl.UrlText(u)], surts[impl.Surt(u)] = u, u
					count++
				}
			}
		}
	}
	if len(texts) != count || len(surts) != count {
		t.Errorf("%d addresses have %d texts and %d Surts", count, len(texts), len(surts))
	}
}

func TestEachRowOfPartsOfAddresses(t *testing.T) {
	parts := []string{"a", "B.c", ":", "80", "81", "/", "/..", "/.", "%41", "%2f", "%4", "?", "#", "."}
	eachPieces(parts, 4, func(rest string) {
		checkAddress(t, "http://"+rest)
		checkAddress(t, "HTTP://x"+rest)
		checkAddress(t, "http://x/"+rest)
	})
	eachPieces([]string{"http", ":", "/", "//", "a", "?", "HTTP://", ":81"}, 5, func(s string) {
		checkAddress(t, s)
	})
}

func TestEachRowOfPartsOfSurts(t *testing.T) {
	eachPieces([]string{"a", "bc", ",", ".", ":", "80", "81", ")", "/", "/..", "%41", "%2F", "?"}, 4, func(rest string) {
		checkSurt(t, rest)
		checkSurt(t, "x"+rest)
		checkSurt(t, "x)"+rest)
		checkSurt(t, "y,x:8080"+rest)
	})
	eachText("a,:8)/?", 6, func(s string) {
		checkSurt(t, s)
	})
}

func TestChangedBytesOfAddresses(t *testing.T) {
	for _, text := range []string{"http://www.b.example:8080/x?y", "HTTP://A-b/%41/../%2f/./c%?", "http://a?b", "http://a:80/..//."} {
		eachChange(text, func(s string) { checkAddress(t, s) })
	}
	for _, text := range []string{"example,b,www:8080)/x?y", "a)/", "b,a:81)//%2F%zz/?/..", "c-d,a0)/a/b/c?"} {
		eachChange(text, func(s string) { checkSurt(t, s) })
	}
	for _, p := range []string{"/a/./b/../c", "/%41%2f/%2e%2E/x%4", "//a/..//.", "/%%41%4%31/"} {
		eachChange(p, func(s string) { checkClean(t, s, cleanPathModel(s)) })
	}
}

// eachChange calls f with s, with its beginnings, and with s where one byte is gone, stands twice, is another, or has another ahead of it.
func eachChange(s string, f func(string)) {
	f(s)
	for at := range len(s) {
		ahead, behind := s[:at], s[at+1:]
		f(ahead)
		f(ahead + behind)
		for i := range 256 {
			f(ahead + string([]byte{byte(i)}) + behind)
			f(ahead + string([]byte{byte(i)}) + s[at:])
		}
	}
}

// Parts of addresses, right and wrong, each with each.
func TestEachAddressOfParts(t *testing.T) {
	for _, host := range []string{"a", "a.b", "", ".", "A", "a.", strings.Repeat("h", impl.MaxHost), strings.Repeat("h", impl.MaxHost+1)} {
		for _, port := range []int{-1, 0, 1, 80, 8080, impl.MaxPort, impl.MaxPort + 1} {
			for _, path := range []string{"", "/", "/a", "a", "/..", "/%41", "/%2F", "/%2f", "/?", "/" + strings.Repeat("p", 120), "/" + strings.Repeat("p", 125), "/" + strings.Repeat("p", 131), "/" + strings.Repeat("p", 132), "/" + strings.Repeat("p", 133)} {
				for _, query := range []string{"", "q", "?", "#", " ", "\xe4"} {
					checkUrl(t, impl.Url{Host: host, Port: port, Path: path, Query: query})
					checkUrl(t, impl.Url{Host: host, Port: port, Path: path, Query: query, HasQuery: true})
				}
			}
		}
	}
}
