package tests

import (
	"bytes"
	"fmt"
	"math"
	"regexp"
	"slices"
	"strconv"
	"strings"
	"testing"
	"time"

	"loop.example/g00651/impl"
)

// keyedLine is a line of a GET of a client that was answered with 200.
func keyedLine(key string, at, seg, from int) impl.Line {
	return impl.Line{Key: key, Time: at, Method: "GET", Status: 200, Label: labelModel("one"), Seg: seg, At: from, Size: 7}
}

func lineWith(x impl.Line, change func(x *impl.Line)) impl.Line {
	change(&x)
	return x
}

// fourLines are a line of each side, of an answer and of a revisit.
func fourLines() []impl.Line {
	var list []impl.Line
	for _, side := range []int{impl.SdClient, impl.SdOrigin} {
		for _, revisit := range []bool{false, true} {
			list = append(list, impl.Line{
				Key: "example,b,www:8080)/x?y", Time: someTime, Side: side, Method: "GET", Status: 200,
				Label: labelModel("hello"), Revisit: revisit, Seg: 3, At: 1200, Size: 457,
			})
		}
	}
	return list
}

// manyLines is an index of n lines of a few keys, each with several times, segments and places.
func manyLines(n int) []impl.Line {
	var list []impl.Line
	for i := range n {
		key, rest := i/100, i%100
		x := keyedLine(fmt.Sprintf("b,a)/%d", key), rest/25*10, rest/5%5, rest%5)
		x.Side, x.Revisit = i%2, i%3 == 0
		list = append(list, x)
	}
	return list
}

// The rules told in another way: a pattern for a line's text, one format for all of them, lists gone through from end to end, and the library's sorting.

var lineForm = regexp.MustCompile(`^([^ ]+) ([0-9]{14}) (c|o) ` + tokenPattern + ` ([2-5][0-9][0-9]) ` + labelPattern + ` (r|-) (0|[1-9][0-9]?) (0|[1-9][0-9]{0,4}) (0|[1-9][0-9]{0,4})$`)

func stampModel(at int) string {
	return time.Unix(int64(at), 0).UTC().Format("20060102150405")
}

func lineModel(x impl.Line) bool {
	_, keyed := unsurtModel(x.Key)
	return keyed && x.Time >= 0 && x.Time <= 253402300799 && (x.Side == 0 || x.Side == 1) && tokenForm.MatchString(x.Method) && len(x.Method) < 21 &&
		x.Status > 199 && x.Status < 600 && labelForm.MatchString(x.Label) && x.Seg >= 0 && x.Seg < 40 && x.At >= 0 && x.At <= 60000 && x.Size >= 0 && x.Size <= 60000
}

// lineTextModel is the text by the rules, whether the line is right or not.
func lineTextModel(x impl.Line) string {
	side, kind := 'c', '-'
	if x.Side == 1 {
		side = 'o'
	}
	if x.Revisit {
		kind = 'r'
	}
	return fmt.Sprintf("%s %s %c %s %d %s %c %d %d %d", x.Key, stampModel(x.Time), side, x.Method, x.Status, x.Label, kind, x.Seg, x.At, x.Size)
}

func readLineModel(s string) (impl.Line, bool) {
	m := lineForm.FindStringSubmatch(s)
	if m == nil {
		return impl.Line{}, false
	}
	d, err := time.Parse("20060102150405", m[2])
	if err != nil {
		return impl.Line{}, false
	}
	var n [4]int
	for i, word := range []string{m[5], m[8], m[9], m[10]} {
		n[i], _ = strconv.Atoi(word)
	}
	x := impl.Line{Key: m[1], Time: int(d.Unix()), Side: strings.Index("co", m[3]), Method: m[4], Status: n[0], Label: m[6], Revisit: m[7] == "r", Seg: n[1], At: n[2], Size: n[3]}
	if !lineModel(x) {
		return impl.Line{}, false
	}
	return x, true
}

func compareModel(a, b impl.Line) int {
	if a.Key != b.Key {
		return bytes.Compare([]byte(a.Key), []byte(b.Key))
	}
	return slices.Compare([]int{a.Time, a.Seg, a.At}, []int{b.Time, b.Seg, b.At})
}

// indexModel holds each line against all that are behind it.
func indexModel(l []impl.Line) bool {
	if len(l) > 400 {
		return false
	}
	for i, x := range l {
		if !lineModel(x) {
			return false
		}
		for _, y := range l[i+1:] {
			if compareModel(x, y) != -1 {
				return false
			}
		}
	}
	return true
}

func inIndex(l []impl.Line, x impl.Line) bool {
	return slices.ContainsFunc(l, func(y impl.Line) bool { return compareModel(x, y) == 0 })
}

func addModel(l []impl.Line, x impl.Line) ([]impl.Line, bool) {
	if !indexModel(l) || !lineModel(x) || inIndex(l, x) || len(l) == 400 {
		return nil, false
	}
	return slices.SortedFunc(slices.Values(append(slices.Clone(l), x)), compareModel), true
}

func mergeModel(a, b []impl.Line) ([]impl.Line, bool) {
	if !indexModel(a) || !indexModel(b) {
		return nil, false
	}
	list := slices.Clone(a)
	for _, x := range b {
		if !inIndex(a, x) {
			list = append(list, x)
		}
	}
	if len(list) > 400 {
		return nil, false
	}
	slices.SortFunc(list, compareModel)
	return list, true
}

func rangeModel(l []impl.Line, key string) (int, int) {
	if !indexModel(l) {
		return -1, -1
	}
	from, to := 0, 0
	for _, x := range l {
		if x.Key < key {
			from++
		}
		if x.Key <= key {
			to++
		}
	}
	return from, to
}

func closestModel(l []impl.Line, key string, side int, method string, at int) int {
	var fit [][]int
	for i, x := range l {
		if x.Key == key && x.Side == side && x.Method == method {
			fit = append(fit, []int{int(math.Abs(float64(x.Time - at))), x.Time, -i})
		}
	}
	if !indexModel(l) || at < 0 || at > 253402300799 || len(fit) == 0 {
		return -1
	}
	return -slices.MinFunc(fit, slices.Compare)[2]
}

func indexTextModel(l []impl.Line) string {
	text := ""
	for _, x := range l {
		text += fmt.Sprintln(lineTextModel(x))
	}
	return text
}

func readIndexModel(s string) ([]impl.Line, bool) {
	var list []impl.Line
	texts := strings.Split(s, "\n")
	last := len(texts) - 1
	for _, text := range texts[:last] {
		x, ok := readLineModel(text)
		if !ok {
			return nil, false
		}
		list = append(list, x)
	}
	if texts[last] != "" || !indexModel(list) {
		return nil, false
	}
	return list, true
}

// linesShown is l for a report, cut where it is long.
func linesShown(l []impl.Line) string {
	text := fmt.Sprintf("%d lines", len(l))
	for _, x := range l[:min(len(l), 6)] {
		text += fmt.Sprintf(" [%.60q %d %d %.30q %d %.40q %v %d %d %d]", x.Key, x.Time, x.Side, x.Method, x.Status, x.Label, x.Revisit, x.Seg, x.At, x.Size)
	}
	return text
}

func lineShown(x impl.Line) string {
	return linesShown([]impl.Line{x})
}

func oneIf(is bool) int {
	if is {
		return 1
	}
	return 0
}

func checkLineText(t *testing.T, s string) {
	t.Helper()
	want, wantOk := readLineModel(s)
	if got, ok := impl.ReadLine(s); got != want || ok != wantOk {
		t.Errorf("ReadLine(%.400q) is %s and %v, not %s and %v", s, lineShown(got), ok, lineShown(want), wantOk)
	}
}

func checkNoLineText(t *testing.T, s string) {
	t.Helper()
	if got, ok := impl.ReadLine(s); ok || got != (impl.Line{}) {
		t.Errorf("ReadLine(%.400q) is %s and %v", s, lineShown(got), ok)
	}
	checkLineText(t, s)
}

func checkRightLine(t *testing.T, x impl.Line) {
	t.Helper()
	text := lineTextModel(x)
	if !impl.LineOk(x) || !lineModel(x) {
		t.Errorf("%s is refused", lineShown(x))
	}
	if got := impl.LineText(x); got != text {
		t.Errorf("LineText(%s) is %.400q, not %.400q", lineShown(x), got, text)
	}
	if got, ok := impl.ReadLine(text); !ok || got != x {
		t.Errorf("ReadLine(%.400q) is %s and %v", text, lineShown(got), ok)
	}
	for _, s := range []string{" " + text, text + " ", text + "\n", text + "\r\n", text + "\r", text + " " + text, text[1:] + " ", "x " + text, text + " 0"} {
		checkNoLineText(t, s)
	}
}

func checkWrongLine(t *testing.T, x impl.Line) {
	t.Helper()
	if impl.LineOk(x) || lineModel(x) {
		t.Errorf("%s is ok", lineShown(x))
	}
	if got := impl.LineText(x); got != "" {
		t.Errorf("LineText(%s) is %.400q", lineShown(x), got)
	}
	// Its text, as it would be, is not read as it.
	if got, ok := impl.ReadLine(lineTextModel(x)); ok && got == x {
		t.Errorf("ReadLine takes the text of %s", lineShown(x))
	}
	checkLineText(t, lineTextModel(x))
}

func checkAnyLine(t *testing.T, x impl.Line, right bool) {
	t.Helper()
	if right {
		checkRightLine(t, x)
		return
	}
	checkWrongLine(t, x)
}

func checkLines(t *testing.T, what string, got []impl.Line, ok bool, want []impl.Line, wantOk bool) {
	t.Helper()
	if !slices.Equal(got, want) || ok != wantOk {
		t.Errorf("%s is %s and %v, not %s and %v", what, linesShown(got), ok, linesShown(want), wantOk)
	}
}

// checkIndex holds what is asked of one list alone against the rules, whatever the list is.
func checkIndex(t *testing.T, l []impl.Line) {
	t.Helper()
	want, text := indexModel(l), ""
	if want {
		text = indexTextModel(l)
	}
	if got := impl.IndexOk(l); got != want {
		t.Errorf("IndexOk(%s) is %v", linesShown(l), got)
	}
	if got := impl.IndexText(l); got != text {
		t.Errorf("IndexText(%s) is %.600q, not %.600q", linesShown(l), got, text)
	}
	if got, ok := impl.ReadIndex(text); want {
		checkLines(t, fmt.Sprintf("ReadIndex(%.600q)", text), got, ok, l, true)
	}
}

func checkIndexText(t *testing.T, s string) {
	t.Helper()
	want, wantOk := readIndexModel(s)
	got, ok := impl.ReadIndex(s)
	checkLines(t, fmt.Sprintf("ReadIndex(%.600q)", s), got, ok, want, wantOk)
}

func checkNoIndexText(t *testing.T, s string) {
	t.Helper()
	got, ok := impl.ReadIndex(s)
	checkLines(t, fmt.Sprintf("ReadIndex(%.600q)", s), got, ok, nil, false)
	checkIndexText(t, s)
}

func checkAdd(t *testing.T, l []impl.Line, x impl.Line) {
	t.Helper()
	want, wantOk := addModel(l, x)
	got, ok := impl.IndexAdd(l, x)
	checkLines(t, fmt.Sprintf("IndexAdd of %s to %s", lineShown(x), linesShown(l)), got, ok, want, wantOk)
}

func checkMerge(t *testing.T, a, b []impl.Line) {
	t.Helper()
	want, wantOk := mergeModel(a, b)
	got, ok := impl.IndexMerge(a, b)
	checkLines(t, fmt.Sprintf("IndexMerge of %s and %s", linesShown(a), linesShown(b)), got, ok, want, wantOk)
}

func checkRange(t *testing.T, l []impl.Line, key string) {
	t.Helper()
	from, to := impl.IndexRange(l, key)
	if wantFrom, wantTo := rangeModel(l, key); from != wantFrom || to != wantTo {
		t.Errorf("IndexRange(%s, %.60q) is %d and %d, not %d and %d", linesShown(l), key, from, to, wantFrom, wantTo)
	}
}

func checkClosest(t *testing.T, l []impl.Line, key string, side int, method string, at int) {
	t.Helper()
	got := impl.Closest(l, key, side, method, at)
	if want := closestModel(l, key, side, method, at); got != want {
		t.Errorf("Closest(%s, %.60q, %d, %.30q, %d) is %d, not %d", linesShown(l), key, side, method, at, got, want)
	}
}

func TestConstantsOfTheIndex(t *testing.T) {
	if impl.MaxLines != 400 || impl.SdClient != 0 || impl.SdOrigin != 1 {
		t.Error("a constant is not the document's")
	}
}

func TestLinesByHand(t *testing.T) {
	label := "sha1:VGMT4NSHA2AWVOR6EVYXQUGCNSONBWE5"
	for _, c := range []struct {
		x    impl.Line
		text string
	}{
		{impl.Line{Key: "a)/", Method: "G", Status: 200, Label: label}, "a)/ 19700101000000 c G 200 " + label + " - 0 0 0"},
		{impl.Line{Key: "b,a:81)/x?", Time: 1583251521, Side: impl.SdOrigin, Method: "PUT", Status: 404, Label: label, Revisit: true, Seg: 39, At: 60000, Size: 60000}, "b,a:81)/x? 20200303160521 o PUT 404 " + label + " r 39 60000 60000"},
		{impl.Line{Key: "b,a)/", Time: impl.MaxTime, Side: impl.SdClient, Method: "GET", Status: 599, Label: label, Revisit: true, Seg: 10, At: 1, Size: 99}, "b,a)/ 99991231235959 c GET 599 " + label + " r 10 1 99"},
		{impl.Line{Key: "b,a)/", Time: 59, Side: impl.SdOrigin, Method: "get", Status: 304, Label: label, Seg: 9, At: 10, Size: 100}, "b,a)/ 19700101000059 o get 304 " + label + " - 9 10 100"},
	} {
		if got := impl.LineText(c.x); got != c.text {
			t.Errorf("LineText is %q, not %q", got, c.text)
		}
		checkRightLine(t, c.x)
	}
}

func TestLinesOfBothSidesComeBack(t *testing.T) {
	for _, x := range fourLines() {
		checkRightLine(t, x)
	}
	checkWrongLine(t, impl.Line{})
}

func TestKeysOfLines(t *testing.T) {
	for i, u := range rightUrls() {
		for _, x := range fourLines() {
			checkRightLine(t, lineWith(x, func(x *impl.Line) { x.Key, x.Time, x.At = surtModel(u), someTime+i, i }))
		}
	}
	for _, key := range []string{
		"", " ", "a", "a)", ")", ")/", "/", "a/", "A)/", "a)/ ", " a)/", "a )/", "a)/\n", "a)/\r\n", "\na)/", "a.b)/", "a:80)/", "a:0)/", "a:081)/", "a:)/", "a:65536)/", "a,)/", ",a)/", "a,,b)/", "a)/.", "a)/../x", "a)/%41", "a)/%2f",
		"a)/#", "a)/x#", "a)x", "a)?x", "http://a/", "a)/\xe4", "a)/\x00", "\xe4)/", "a)/\u0161", strings.Repeat("h", impl.MaxHost+1) + ")/", "a)/" + strings.Repeat("p", impl.MaxTarget), "a)/" + strings.Repeat("p", 1<<18), strings.Repeat(",", 1<<18),
	} {
		for _, x := range fourLines() {
			checkWrongLine(t, lineWith(x, func(x *impl.Line) { x.Key = key }))
		}
	}
}

func TestTimesOfLines(t *testing.T) {
	for i, at := range edgeTimes() {
		checkRightLine(t, lineWith(fourLines()[i%4], func(x *impl.Line) { x.Time = at }))
	}
	for _, at := range append(noTimes(), 0, 1, impl.MaxTime-1, impl.MaxTime) {
		for _, x := range fourLines() {
			checkAnyLine(t, lineWith(x, func(x *impl.Line) { x.Time = at }), at >= 0 && at <= impl.MaxTime)
		}
	}
}

func TestMethodsOfLines(t *testing.T) {
	for _, x := range fourLines() {
		for _, method := range []string{"G", "GET", "get", "PUT", "-", "r", "o", "c", "0", "!#$%&'*+-.^_|~`", strings.Repeat("M", impl.MaxMethod-1), strings.Repeat("M", impl.MaxMethod)} {
			checkRightLine(t, lineWith(x, func(x *impl.Line) { x.Method = method }))
		}
		for _, method := range []string{"", " ", "G ", " G", "G T", "G\t", "G\n", "G/", "G:", "G,", "(", "G\x00", "G\x7f", "G\xe4", "\u212a", strings.Repeat("M", impl.MaxMethod+1), strings.Repeat("M", impl.MaxText), strings.Repeat("M", 1<<18)} {
			checkWrongLine(t, lineWith(x, func(x *impl.Line) { x.Method = method }))
		}
	}
	for i := range 256 {
		method := string([]byte{byte(i)})
		checkAnyLine(t, lineWith(fourLines()[0], func(x *impl.Line) { x.Method = method }), tokenForm.MatchString(method))
	}
}

func TestLabelsOfLines(t *testing.T) {
	letters := labelModel("one")[5:]
	for _, x := range fourLines() {
		for _, text := range []string{"", "a", "abc", everyByte()} {
			checkRightLine(t, lineWith(x, func(x *impl.Line) { x.Label = labelModel(text) }))
		}
		for _, label := range []string{"", " ", "-", "sha1:", letters, "SHA1:" + letters, "sha1:" + strings.ToLower(letters), "sha1:" + letters[1:], "sha1:" + letters + "A", "sha1:" + letters[1:] + "=", "sha1:" + letters[1:] + " ", "sha1:" + letters[1:] + "1", "md5:" + letters, "sha1:" + letters + "\n", " sha1:" + letters} {
			checkWrongLine(t, lineWith(x, func(x *impl.Line) { x.Label = label }))
		}
	}
}

func TestNumbersOfLines(t *testing.T) {
	far := []int{math.MinInt, math.MinInt + 1, -1 << 32, -2, impl.MaxCap + 2, 1 << 20, 1 << 32, 1<<32 + 1, 1<<32 + 300, impl.MaxNum, impl.MaxNum + 1, math.MaxInt - 1, math.MaxInt}
	for _, c := range []struct {
		name     string
		put      func(x *impl.Line, n int)
		from, to int
	}{
		{"Side", func(x *impl.Line, n int) { x.Side = n }, impl.SdClient, impl.SdOrigin},
		{"Status", func(x *impl.Line, n int) { x.Status = n }, 200, 599},
		{"Seg", func(x *impl.Line, n int) { x.Seg = n }, 0, impl.MaxSegs - 1},
		{"At", func(x *impl.Line, n int) { x.At = n }, 0, impl.MaxCap},
		{"Size", func(x *impl.Line, n int) { x.Size = n }, 0, impl.MaxCap},
	} {
		near := []int{c.from - 1, c.from, c.from + 1, (c.from + c.to) / 2, c.to - 1, c.to, c.to + 1, -1, 0, 1, 9, 10, 99, 100, 199, 200, 599, 600, 999, 1000, 9999, 10000}
		for _, n := range append(near, far...) {
			for _, x := range fourLines() {
				checkAnyLine(t, lineWith(x, func(x *impl.Line) { c.put(x, n) }), n >= c.from && n <= c.to)
			}
		}
	}
	for seg := -2; seg < 130; seg++ {
		checkAnyLine(t, lineWith(fourLines()[0], func(x *impl.Line) { x.Seg = seg }), seg >= 0 && seg < 40)
	}
	for status := range 1100 {
		checkAnyLine(t, lineWith(fourLines()[0], func(x *impl.Line) { x.Status = status }), status >= 200 && status < 600)
	}
}

// Parts of lines, right and wrong, each with each.
func TestEachLineOfParts(t *testing.T) {
	right := 0
	for _, key := range []string{"a)/", "b,a:81)/x?", "a)", ""} {
		for _, at := range []int{0, impl.MaxTime, impl.MaxTime + 1, -1} {
			for _, side := range []int{impl.SdClient, impl.SdOrigin, 2, -1} {
				for _, method := range []string{"GET", "", strings.Repeat("M", impl.MaxMethod+1)} {
					for _, status := range []int{199, 200, 599, 600} {
						for _, label := range []string{labelModel(""), "sha1:"} {
							for _, places := range [][3]int{{0, 0, 0}, {39, 60000, 60000}, {40, 0, 0}, {0, 60001, 0}, {0, 0, 60001}, {-1, 0, 0}, {0, -1, 0}, {0, 0, -1}} {
								x := impl.Line{Key: key, Time: at, Side: side, Method: method, Status: status, Label: label, Revisit: status%2 == 1, Seg: places[0], At: places[1], Size: places[2]}
								right += oneIf(lineModel(x))
								if got := impl.LineOk(x); got != lineModel(x) {
									t.Errorf("LineOk(%s) is %v", lineShown(x), got)
								}
							}
						}
					}
				}
			}
		}
	}
	if right != 2*2*2*1*2*1*2 {
		t.Errorf("%d are right", right)
	}
}

func TestEachChangeOfALineText(t *testing.T) {
	for i, x := range fourLines() {
		x.Key, x.Seg, x.At, x.Size = []string{"a)/", "b,a)/?", "b,a:8)/x", "0:80)/"}[i], []int{0, 9, 10, 39}[i], []int{0, 7, 60000, 59999}[i], []int{10, 60000, 0, 1}[i]
		eachChange(lineTextModel(x), func(s string) { checkLineText(t, s) })
	}
}

func TestWordsOfALineText(t *testing.T) {
	words := strings.Split(lineTextModel(fourLines()[0]), " ")
	for i, word := range words {
		for _, other := range []string{
			"", " ", "  ", "x", "-", "r", "R", "c", "o", "C", "O", "co", "0", "1", "39", "40", "00", "01", "007", "+0", "+1", "-0", "-1", "1.0", "0x1", "1e2", "1_0", "60000", "60001", "060000", "200", "599", "199", "600", "0200", "+200", "404.", "18446744073709551617", "1000000000000000",
			"20200303160521", "20200303160561", "20200230000000", "2020030316052", "020200303160521", "19691231235959", "99991231235959", "2020-03-03T16:05:21Z", "1583251521",
			word + word, "+" + word, "0" + word, word + "0", word + ".", word + " ", " " + word, word + " x", "x " + word, word + "\t", word + "\n", "\t" + word, strings.ToLower(word), strings.ToUpper(word), "%20", "\x00", "\xa0", "\u2002",
		} {
			checkLineText(t, strings.Join(slices.Concat(words[:i], []string{other}, words[i+1:]), " "))
		}
		checkNoLineText(t, strings.Join(slices.Concat(words[:i], words[i+1:]), " "))
		checkNoLineText(t, strings.Join(slices.Concat(words[:i+1], words[i:]), " "))
		checkNoLineText(t, strings.Join(slices.Concat(words[:i], []string{""}, words[i:]), " "))
		for _, gap := range []string{"", "  ", "\t", "\n", " \t", ",", "\xa0", "\x00", "+"} {
			if i > 0 {
				checkNoLineText(t, strings.Join(words[:i], " ")+gap+strings.Join(words[i:], " "))
			}
		}
		for j := range i {
			swapped := slices.Clone(words)
			swapped[i], swapped[j] = swapped[j], swapped[i]
			checkLineText(t, strings.Join(swapped, " "))
		}
	}
	for n := range 12 {
		checkNoLineText(t, strings.Repeat(" ", n))
	}
	checkNoLineText(t, strings.Repeat("a)/ ", 1<<18))
	checkNoLineText(t, strings.Join(words, " ")+strings.Repeat("0", 1<<20))
}

func TestRowsOfWordsOfALineText(t *testing.T) {
	label, taken := labelModel("one"), 0
	parts := []string{"a)/ ", "19700101000000 ", "c ", "GET ", "200 ", label + " ", "- ", "0 ", "0"}
	whole := []string{"a)/ ", "19700101000000 ", "c ", "GET ", "200 ", label + " ", "- ", "0 ", "0 "}
	eachPieces(parts, 4, func(s string) {
		for _, n := range []int{6, 7, 8} {
			text := strings.Join(whole[:n], "") + s
			_, ok := impl.ReadLine(text)
			taken += oneIf(ok)
			checkLineText(t, text)
		}
	})
	if taken < 3 {
		t.Errorf("just %d texts are taken", taken)
	}
}

func TestCompareByHand(t *testing.T) {
	x := keyedLine("b,a)/", 5, 3, 10)
	for _, c := range []struct {
		change func(y *impl.Line)
		want   int
	}{
		{func(y *impl.Line) {}, 0},
		{func(y *impl.Line) { y.Key = "b,a)/x" }, -1}, {func(y *impl.Line) { y.Key = "b,a)" }, 1}, {func(y *impl.Line) { y.Key = "" }, 1}, {func(y *impl.Line) { y.Key = "b,a)/\x00" }, -1}, {func(y *impl.Line) { y.Key = "B,a)/" }, 1}, {func(y *impl.Line) { y.Key = "\xff" }, -1}, {func(y *impl.Line) { y.Key = "\u0161" }, -1}, {func(y *impl.Line) { y.Key = "a,a)/zzz" }, 1}, {func(y *impl.Line) { y.Key = "b,a:80)/" }, -1},
		{func(y *impl.Line) { y.Time = 6 }, -1}, {func(y *impl.Line) { y.Time = 4 }, 1}, {func(y *impl.Line) { y.Time = -1 }, 1}, {func(y *impl.Line) { y.Time = math.MaxInt }, -1}, {func(y *impl.Line) { y.Time = math.MinInt }, 1},
		{func(y *impl.Line) { y.Seg = 4 }, -1}, {func(y *impl.Line) { y.Seg = 2 }, 1}, {func(y *impl.Line) { y.Seg = math.MaxInt }, -1}, {func(y *impl.Line) { y.Seg = math.MinInt }, 1},
		{func(y *impl.Line) { y.At = 11 }, -1}, {func(y *impl.Line) { y.At = 9 }, 1}, {func(y *impl.Line) { y.At = math.MaxInt }, -1}, {func(y *impl.Line) { y.At = math.MinInt }, 1},
		{func(y *impl.Line) { y.Key, y.Time = "b,a)/x", 1 }, -1}, {func(y *impl.Line) { y.Key, y.Seg, y.At = "a", 30, 30 }, 1}, {func(y *impl.Line) { y.Time, y.Seg = 6, 0 }, -1}, {func(y *impl.Line) { y.Time, y.Seg, y.At = 4, 30, 30 }, 1}, {func(y *impl.Line) { y.Seg, y.At = 4, 0 }, -1}, {func(y *impl.Line) { y.Seg, y.At = 2, 600 }, 1}, {func(y *impl.Line) { y.Time, y.At = 6, 0 }, -1},
		{func(y *impl.Line) { y.Side = impl.SdOrigin }, 0}, {func(y *impl.Line) { y.Side = -7 }, 0}, {func(y *impl.Line) { y.Method = "PUT" }, 0}, {func(y *impl.Line) { y.Method = "" }, 0}, {func(y *impl.Line) { y.Status = 404 }, 0}, {func(y *impl.Line) { y.Status = 0 }, 0}, {func(y *impl.Line) { y.Label = "" }, 0}, {func(y *impl.Line) { y.Revisit = true }, 0}, {func(y *impl.Line) { y.Size = 8 }, 0}, {func(y *impl.Line) { y.Size = -8 }, 0},
		{func(y *impl.Line) { *y = impl.Line{Key: y.Key, Time: y.Time, Seg: y.Seg, At: y.At} }, 0}, {func(y *impl.Line) { *y = impl.Line{} }, 1},
	} {
		y := lineWith(x, c.change)
		if got := impl.Compare(x, y); got != c.want {
			t.Errorf("Compare(%s, %s) is %d, not %d", lineShown(x), lineShown(y), got, c.want)
		}
		if got := impl.Compare(y, x); got != -c.want {
			t.Errorf("Compare(%s, %s) is %d, not %d", lineShown(y), lineShown(x), got, -c.want)
		}
	}
}

// Right and wrong lines alike are in one order.
func TestCompareIsAnOrder(t *testing.T) {
	var list []impl.Line
	for _, key := range []string{"", "a)/", "a)/b", "b"} {
		for _, at := range []int{math.MinInt, 0, 1} {
			for _, seg := range []int{-1, 0, math.MaxInt} {
				for _, from := range []int{math.MinInt, 0, math.MaxInt} {
					list = append(list, impl.Line{Key: key, Time: at, Seg: seg, At: from, Side: from, Size: -at, Status: len(list), Method: key})
				}
			}
		}
	}
	for i, a := range list {
		for j, b := range list {
			want := min(1, max(-1, i-j))
			if got := impl.Compare(a, b); got != want || compareModel(a, b) != want {
				t.Errorf("Compare(%s, %s) is %d, not %d", lineShown(a), lineShown(b), got, want)
			}
		}
	}
}

// fewLines are in order, and differ by each thing that an order is made of.
func fewLines() []impl.Line {
	return []impl.Line{
		keyedLine("a)/", 7, 1, 0), lineWith(keyedLine("b,a)/", 5, 0, 9), func(x *impl.Line) { x.Revisit = true }), keyedLine("b,a)/", 5, 0, 10), keyedLine("b,a)/", 5, 2, 4),
		lineWith(keyedLine("b,a)/", 9, 0, 0), func(x *impl.Line) { x.Side = impl.SdOrigin }), lineWith(keyedLine("b,a)/x", 5, 0, 0), func(x *impl.Line) { x.Method = "PUT" }), keyedLine("c)/", 0, 0, 0),
	}
}

// eachPart calls f with every list of lines of l, each at most once, in their order.
func eachPart(l []impl.Line, f func([]impl.Line)) {
	for mask := range 1 << len(l) {
		var part []impl.Line
		for i, x := range l {
			if mask>>i&1 == 1 {
				part = append(part, x)
			}
		}
		f(part)
	}
}

// eachRow calls f with every row of at most most elements of l, in any order, each as often as one likes.
func eachRow[E any](l []E, most int, f func([]E)) {
	f(nil)
	if most == 0 {
		return
	}
	for _, x := range l {
		eachRow(l, most-1, func(rest []E) { f(append([]E{x}, rest...)) })
	}
}

// wrongIndexes are no indexes, each for one reason alone.
func wrongIndexes() [][]impl.Line {
	few := fewLines()
	twin := lineWith(few[2], func(x *impl.Line) { x.Side, x.Method, x.Status, x.Revisit, x.Size = impl.SdOrigin, "PUT", 404, true, 8 })
	lists := [][]impl.Line{
		{few[1], few[0]}, {few[0], few[0]}, {few[2], few[1]}, {few[3], few[2]}, {few[4], few[3]}, {few[5], few[4]}, {few[2], twin}, {twin, few[2]}, {few[0], few[2], few[1]}, {few[1], few[0], few[2]}, {few[0], few[1], few[1]}, {few[0], few[1], few[0]},
		slices.Concat(few, few), append(slices.Clone(few), few[6]), append([]impl.Line{few[6]}, few...),
		{{}}, {{}, few[0]}, manyLines(impl.MaxLines + 1), slices.Repeat([]impl.Line{few[0]}, 1000), make([]impl.Line, 100000),
	}
	for _, change := range []func(x *impl.Line){
		func(x *impl.Line) { x.Key += " " }, func(x *impl.Line) { x.Key += "#" }, func(x *impl.Line) { x.Side = 2 }, func(x *impl.Line) { x.Side = -1 }, func(x *impl.Line) { x.Method = "" }, func(x *impl.Line) { x.Status = 199 }, func(x *impl.Line) { x.Status = 600 },
		func(x *impl.Line) { x.Label = "" }, func(x *impl.Line) { x.Size = -1 }, func(x *impl.Line) { x.Size = impl.MaxCap + 1 },
	} {
		for i := range few {
			list := slices.Clone(few)
			change(&list[i])
			lists = append(lists, list)
		}
	}
	last := len(few) - 1
	for _, change := range []func(x *impl.Line){func(x *impl.Line) { x.Seg = impl.MaxSegs }, func(x *impl.Line) { x.At = impl.MaxCap + 1 }, func(x *impl.Line) { x.Time = impl.MaxTime + 1 }} {
		list := slices.Clone(few)
		change(&list[last])
		lists = append(lists, list)
	}
	for _, change := range []func(x *impl.Line){func(x *impl.Line) { x.Seg = -1 }, func(x *impl.Line) { x.At = -1 }, func(x *impl.Line) { x.Time = -1 }, func(x *impl.Line) { x.Key = "" }} {
		list := slices.Clone(few)
		change(&list[0])
		lists = append(lists, list)
	}
	return lists
}

func TestIndexesComeBack(t *testing.T) {
	eachPart(fewLines(), func(l []impl.Line) { checkIndex(t, l) })
	for _, n := range []int{0, 1, 2, 3, 25, 100, 101, impl.MaxLines - 1, impl.MaxLines} {
		l := manyLines(n)
		if !impl.IndexOk(l) {
			t.Errorf("%d lines are refused", n)
		}
		checkIndex(t, l)
	}
	var list []impl.Line
	for _, u := range rightUrls() {
		list = append(list, keyedLine(surtModel(u), someTime, 0, 0))
	}
	slices.SortFunc(list, compareModel)
	checkIndex(t, slices.Compact(list))
}

func TestIndexTextByHand(t *testing.T) {
	label := labelModel("one")
	for _, c := range []struct {
		l    []impl.Line
		text string
	}{
		{nil, ""}, {[]impl.Line{}, ""}, {[]impl.Line{{}}, ""},
		{fewLines()[:1], "a)/ 19700101000007 c GET 200 " + label + " - 1 0 7\n"},
		{fewLines()[4:6], "b,a)/ 19700101000009 o GET 200 " + label + " - 0 0 7\nb,a)/x 19700101000005 c PUT 200 " + label + " - 0 0 7\n"},
	} {
		if got := impl.IndexText(c.l); got != c.text {
			t.Errorf("IndexText(%s) is %q, not %q", linesShown(c.l), got, c.text)
		}
	}
}

func TestEachRowOfLinesIsAnIndexOrNot(t *testing.T) {
	right := 0
	few := fewLines()
	lines := append(slices.Clone(few[1:5]), lineWith(few[2], func(x *impl.Line) { x.Size = 99 }), lineWith(few[0], func(x *impl.Line) { x.Status = 199 }))
	eachRow(lines, 4, func(l []impl.Line) {
		right += oneIf(impl.IndexOk(l))
		checkIndex(t, l)
		for _, x := range lines {
			checkAdd(t, l, x)
		}
		for _, key := range []string{"", "b,a)/", "c"} {
			checkRange(t, l, key)
		}
		checkClosest(t, l, "b,a)/", impl.SdClient, "GET", 6)
	})
	// All parts of four lines, and those of them with the fifth in place of the third.
	if right != 16+8 {
		t.Errorf("%d rows are indexes", right)
	}
}

func TestEachFunctionRefusesWhatIsNoIndex(t *testing.T) {
	x := keyedLine("zz)/", 1, 1, 1)
	for _, l := range wrongIndexes() {
		if indexModel(l) || impl.IndexOk(l) {
			t.Errorf("IndexOk(%s)", linesShown(l))
		}
		if got := impl.IndexText(l); got != "" {
			t.Errorf("IndexText(%s) is %.600q", linesShown(l), got)
		}
		if list, ok := impl.IndexAdd(l, x); ok || len(list) > 0 {
			t.Errorf("IndexAdd to %s is %d lines and %v", linesShown(l), len(list), ok)
		}
		for _, other := range [][]impl.Line{nil, {x}, fewLines(), l} {
			if list, ok := impl.IndexMerge(l, other); ok || len(list) > 0 {
				t.Errorf("IndexMerge of %s and %d lines is %d lines and %v", linesShown(l), len(other), len(list), ok)
			}
			if list, ok := impl.IndexMerge(other, l); ok || len(list) > 0 {
				t.Errorf("IndexMerge of %d lines and %s is %d lines and %v", len(other), linesShown(l), len(list), ok)
			}
		}
		for _, key := range []string{"", "a)/", "b,a)/", "b,a)/x", "c)/", "zzz"} {
			if from, to := impl.IndexRange(l, key); from != -1 || to != -1 {
				t.Errorf("IndexRange(%s, %q) is %d and %d", linesShown(l), key, from, to)
			}
			if got := impl.Closest(l, key, impl.SdClient, "GET", 5); got != -1 {
				t.Errorf("Closest(%s, %q) is %d", linesShown(l), key, got)
			}
		}
	}
}

func TestLinesPutInAreInTheirPlace(t *testing.T) {
	few := fewLines()
	for i, x := range few {
		rest := slices.Concat(few[:i], few[i+1:])
		got, ok := impl.IndexAdd(rest, x)
		checkLines(t, fmt.Sprintf("IndexAdd of the line %d", i), got, ok, few, true)
		got, ok = impl.IndexAdd(few, x)
		checkLines(t, fmt.Sprintf("IndexAdd of the line %d, which is there", i), got, ok, nil, false)
	}
	got, ok := impl.IndexAdd(nil, few[0])
	checkLines(t, "IndexAdd to none", got, ok, few[:1], true)
	eachPart(few, func(l []impl.Line) {
		for _, x := range few {
			checkAdd(t, l, x)
		}
	})
}

func TestLinesPutInOneByOneInAnyOrder(t *testing.T) {
	want := manyLines(60)
	for _, step := range []int{1, 7, 11, 13, 29, 59} {
		var list []impl.Line
		for i := range want {
			var ok bool
			if list, ok = impl.IndexAdd(list, want[i*step%len(want)]); !ok || len(list) != i+1 || !impl.IndexOk(list) {
				t.Fatalf("with a step of %d the line %d is not taken", step, i)
			}
		}
		checkLines(t, fmt.Sprintf("all lines with a step of %d", step), list, true, want, true)
	}
}

func TestIndexAddRefuses(t *testing.T) {
	few := fewLines()
	for i, x := range few {
		// Just the key, the time, the segment and the place are looked at.
		twin := lineWith(x, func(x *impl.Line) {
			x.Side, x.Method, x.Status, x.Label, x.Revisit, x.Size = 1-x.Side, "DELETE", 500, labelModel("two"), !x.Revisit, 1
		})
		got, ok := impl.IndexAdd(few, twin)
		checkLines(t, fmt.Sprintf("IndexAdd of a twin of the line %d", i), got, ok, nil, false)
	}
	for _, x := range []impl.Line{{}, lineWith(few[0], func(x *impl.Line) { x.Key = "" }), lineWith(few[3], func(x *impl.Line) { x.Time, x.Status = 6, 600 }), lineWith(few[3], func(x *impl.Line) { x.Time = -1 }), lineWith(few[3], func(x *impl.Line) { x.Seg = impl.MaxSegs }), lineWith(few[3], func(x *impl.Line) { x.At = impl.MaxCap + 1 }), lineWith(few[3], func(x *impl.Line) { x.At, x.Label = 5, "" })} {
		for _, l := range [][]impl.Line{nil, few[:1], few} {
			got, ok := impl.IndexAdd(l, x)
			checkLines(t, "IndexAdd of "+lineShown(x), got, ok, nil, false)
			checkAdd(t, l, x)
		}
	}
}

func TestTheMostLines(t *testing.T) {
	most := manyLines(impl.MaxLines)
	for _, i := range []int{0, 1, 199, 200, 398, 399} {
		rest := slices.Concat(most[:i], most[i+1:])
		got, ok := impl.IndexAdd(rest, most[i])
		checkLines(t, fmt.Sprintf("the last line, at %d", i), got, ok, most, true)
		got, ok = impl.IndexAdd(most, most[i])
		checkLines(t, "a line that is there", got, ok, nil, false)
	}
	for _, x := range []impl.Line{keyedLine("a)/", 0, 0, 0), keyedLine("b,a)/2", 5, 0, 0), keyedLine("z)/", 0, 0, 0)} {
		got, ok := impl.IndexAdd(most, x)
		checkLines(t, "one line more", got, ok, nil, false)
		got, ok = impl.IndexMerge(most, []impl.Line{x})
		checkLines(t, "a merge with one line more", got, ok, nil, false)
		got, ok = impl.IndexMerge([]impl.Line{x}, most)
		checkLines(t, "a merge of one line more", got, ok, nil, false)
	}
	more := manyLines(impl.MaxLines + 1)
	if !impl.IndexOk(most) || impl.IndexOk(more) {
		t.Error("the limit is not met")
	}
	text := indexTextModel(more)
	checkNoIndexText(t, text)
	checkIndexText(t, text[strings.Index(text, "\n")+1:])
}

func TestMergesOfTheMostLines(t *testing.T) {
	more := manyLines(impl.MaxLines + 1)
	most := more[:impl.MaxLines]
	var even, odd []impl.Line
	for i, x := range more {
		if i%2 == 0 {
			even = append(even, x)
		} else {
			odd = append(odd, x)
		}
	}
	for _, c := range []struct{ a, b, want []impl.Line }{
		{most, nil, most}, {nil, most, most}, {most, most, most}, {most, most[7:9], most}, {most[390:], most, most}, {most[:200], most[200:], most}, {most[200:], most[:200], most}, {most[:300], most[100:], most}, {even[:200], odd, most}, {odd, even[:200], most},
		{odd, even, nil}, {even, odd, nil}, {most, more[400:], nil}, {more[400:], most, nil}, {more[:201], more[201:], nil}, {more[:300], more[200:], nil}, {more[1:], more[:1], nil},
	} {
		got, ok := impl.IndexMerge(c.a, c.b)
		checkLines(t, fmt.Sprintf("IndexMerge of %d and %d lines", len(c.a), len(c.b)), got, ok, c.want, c.want != nil)
	}
}

func TestMergesOfEachTwoParts(t *testing.T) {
	few := fewLines()[:6]
	other := slices.Clone(few)
	for i := range other {
		other[i].Status, other[i].Size = 404, i
	}
	eachPart(few, func(a []impl.Line) {
		eachPart(other, func(b []impl.Line) {
			if len(a)+len(b) < 6 || len(a) == len(b) {
				checkMerge(t, a, b)
			}
		})
	})
}

func TestMergesByHand(t *testing.T) {
	few := fewLines()
	twin := lineWith(few[2], func(x *impl.Line) { x.Status, x.Label = 404, labelModel("two") })
	for _, c := range []struct{ a, b, want []impl.Line }{
		{nil, nil, nil}, {few, nil, few}, {nil, few, few}, {few, few, few}, {few[:3], few[3:], few}, {few[3:], few[:3], few}, {few[:5], few[2:], few},
		{[]impl.Line{few[2]}, []impl.Line{twin}, []impl.Line{few[2]}}, {[]impl.Line{twin}, []impl.Line{few[2]}, []impl.Line{twin}},
		{[]impl.Line{few[0], twin}, few[1:4], []impl.Line{few[0], few[1], twin, few[3]}}, {few[1:4], []impl.Line{few[0], twin}, few[:4]},
	} {
		got, ok := impl.IndexMerge(c.a, c.b)
		checkLines(t, fmt.Sprintf("IndexMerge of %s and %s", linesShown(c.a), linesShown(c.b)), got, ok, c.want, true)
	}
}

func TestRangesByHand(t *testing.T) {
	few := fewLines()
	for _, c := range []struct {
		key      string
		from, to int
	}{
		{"", 0, 0}, {"a", 0, 0}, {"a)", 0, 0}, {"a)/", 0, 1}, {"a)/\x00", 1, 1}, {"b,a)", 1, 1}, {"b,a)/", 1, 5}, {"b,a)/\x00", 5, 5}, {"b,a)/w", 5, 5}, {"b,a)/x", 5, 6}, {"b,a)/x?", 6, 6}, {"b,b)/", 6, 6}, {"c)/", 6, 7}, {"c)/x", 7, 7}, {"d", 7, 7}, {"\xff", 7, 7}, {"B,a)/", 0, 0}, {strings.Repeat("b", 1<<18), 6, 6},
	} {
		if from, to := impl.IndexRange(few, c.key); from != c.from || to != c.to {
			t.Errorf("IndexRange of %.60q is %d and %d, not %d and %d", c.key, from, to, c.from, c.to)
		}
		if from, to := impl.IndexRange(nil, c.key); from != 0 || to != 0 {
			t.Errorf("IndexRange of none and %.60q is %d and %d", c.key, from, to)
		}
	}
}

func TestRangesOfParts(t *testing.T) {
	keys := []string{"", "a)/", "a)/0", "b,a)", "b,a)/", "b,a)/0", "b,a)/x", "b,a)/x?", "c)/", "z"}
	eachPart(fewLines(), func(l []impl.Line) {
		for _, key := range keys {
			checkRange(t, l, key)
		}
	})
	most := manyLines(impl.MaxLines)
	for i := range 5 {
		key := fmt.Sprintf("b,a)/%d", i)
		checkRange(t, most, key)
		checkRange(t, most, key+"0")
	}
}

// Just the lines of a key stand in its range.
func TestRangesHoldTheLinesOfTheirKeys(t *testing.T) {
	l := manyLines(350)
	for _, key := range []string{"b,a)/0", "b,a)/1", "b,a)/2", "b,a)/3", "b,a)/", "b,a)/4"} {
		from, to := impl.IndexRange(l, key)
		for i, x := range l {
			if in := i >= from && i < to; in != (x.Key == key) {
				t.Errorf("the line %d is in the range of %q: %v", i, key, in)
			}
		}
	}
}

func TestClosestByHand(t *testing.T) {
	other := func(x *impl.Line) { x.Side = impl.SdOrigin }
	put := func(x *impl.Line) { x.Method = "PUT" }
	l := []impl.Line{
		keyedLine("a)/", 14, 0, 0),
		keyedLine("b,a)/", 10, 0, 0), keyedLine("b,a)/", 10, 0, 5), lineWith(keyedLine("b,a)/", 10, 1, 0), other), lineWith(keyedLine("b,a)/", 13, 0, 0), put), lineWith(keyedLine("b,a)/", 15, 0, 0), other),
		keyedLine("b,a)/", 20, 0, 0), keyedLine("b,a)/", 20, 1, 0), lineWith(keyedLine("b,a)/", 20, 2, 0), put), keyedLine("b,a)/", 31, 0, 0),
		keyedLine("b,a)/x", 14, 0, 0),
	}
	for _, c := range []struct {
		key    string
		side   int
		method string
		at     int
		want   int
	}{
		{"b,a)/", 0, "GET", 0, 2}, {"b,a)/", 0, "GET", 9, 2}, {"b,a)/", 0, "GET", 10, 2}, {"b,a)/", 0, "GET", 14, 2}, {"b,a)/", 0, "GET", 15, 2}, {"b,a)/", 0, "GET", 16, 7}, {"b,a)/", 0, "GET", 20, 7}, {"b,a)/", 0, "GET", 25, 7}, {"b,a)/", 0, "GET", 26, 9}, {"b,a)/", 0, "GET", 31, 9}, {"b,a)/", 0, "GET", impl.MaxTime, 9},
		{"b,a)/", 1, "GET", 0, 3}, {"b,a)/", 1, "GET", 12, 3}, {"b,a)/", 1, "GET", 13, 5}, {"b,a)/", 1, "GET", 99, 5}, {"b,a)/", 0, "PUT", 16, 4}, {"b,a)/", 0, "PUT", 17, 8}, {"b,a)/", 1, "PUT", 17, -1},
		{"a)/", 0, "GET", 0, 0}, {"a)/", 0, "GET", impl.MaxTime, 0}, {"a)/", 1, "GET", 14, -1}, {"b,a)/x", 0, "GET", 14, 10}, {"b,a)/y", 0, "GET", 14, -1}, {"", 0, "GET", 14, -1}, {"a", 0, "GET", 14, -1}, {"b,a)", 0, "GET", 14, -1}, {"zz", 0, "GET", 14, -1},
		{"b,a)/", 0, "get", 14, -1}, {"b,a)/", 0, "", 14, -1}, {"b,a)/", 0, "GE", 14, -1}, {"b,a)/", 0, "GETS", 14, -1}, {"b,a)/", 2, "GET", 14, -1}, {"b,a)/", -1, "GET", 14, -1}, {"b,a)/", 1 << 32, "GET", 14, -1},
		{"b,a)/", 0, "GET", -1, -1}, {"b,a)/", 0, "GET", impl.MaxTime + 1, -1}, {"b,a)/", 0, "GET", math.MaxInt, -1}, {"b,a)/", 0, "GET", math.MinInt, -1},
	} {
		if got := impl.Closest(l, c.key, c.side, c.method, c.at); got != c.want {
			t.Errorf("Closest(%q, %d, %q, %d) is %d, not %d", c.key, c.side, c.method, c.at, got, c.want)
		}
		if got := impl.Closest(nil, c.key, c.side, c.method, c.at); got != -1 {
			t.Errorf("Closest of none is %d", got)
		}
		checkClosest(t, l, c.key, c.side, c.method, c.at)
	}
}

func TestClosestAtTheEndsOfTime(t *testing.T) {
	l := []impl.Line{keyedLine("b,a)/", 0, 0, 0), keyedLine("b,a)/", impl.MaxTime, 0, 0)}
	for at, want := range map[int]int{0: 0, 1: 0, impl.MaxTime / 2: 0, impl.MaxTime/2 + 1: 1, impl.MaxTime - 1: 1, impl.MaxTime: 1} {
		if got := impl.Closest(l, "b,a)/", impl.SdClient, "GET", at); got != want {
			t.Errorf("the closest of %d is %d, not %d", at, got, want)
		}
	}
	for _, at := range noTimes() {
		if got := impl.Closest(l, "b,a)/", impl.SdClient, "GET", at); got != -1 {
			t.Errorf("the closest of %d is %d", at, got)
		}
	}
}

// None is nearer than the closest.
func TestClosestOfParts(t *testing.T) {
	var lines []impl.Line
	for _, at := range []int{4, 6, 6, 10, 11, 16} {
		lines = append(lines, keyedLine("b,a)/", at, 0, len(lines)))
	}
	lines = append(lines, lineWith(keyedLine("b,a)/", 16, 1, 0), func(x *impl.Line) { x.Side = impl.SdOrigin }), keyedLine("b,a)/0", 9, 0, 0))
	eachPart(lines, func(l []impl.Line) {
		for at := range 20 {
			checkClosest(t, l, "b,a)/", impl.SdClient, "GET", at)
			checkClosest(t, l, "b,a)/", impl.SdOrigin, "GET", at)
		}
	})
	most := manyLines(impl.MaxLines)
	for at := range 40 {
		for side := range 2 {
			checkClosest(t, most, "b,a)/2", side, "GET", at)
		}
	}
}

func TestWrongTextsOfIndexes(t *testing.T) {
	few := fewLines()
	text := indexTextModel(few)
	lines := strings.SplitAfter(text, "\n")
	one := lines[0]
	for _, s := range []string{
		"\n", "\n\n", "\r\n", " ", " \n", "x", "x\n", text[:len(text)-1], one[:len(one)-1], text + "\n", "\n" + text, one + "\n" + lines[1], strings.ReplaceAll(text, "\n", "\r\n"), strings.ReplaceAll(text, "\n", "\r"), strings.ReplaceAll(text, "\n", "\n\r"), strings.ReplaceAll(text, "\n", "\n\n"), strings.ReplaceAll(text, "\n", " \n"), strings.ReplaceAll(text, "\n", "\n "), strings.ReplaceAll(text, "\n", ""), strings.ReplaceAll(text, "\n", "\x00"),
		text + " ", text + "\x00", text + "x", text + "\r\n", " " + text, text + text, one + one, lines[1] + lines[0], lines[2] + lines[1], lines[4] + lines[3], text + one, lines[6] + text, strings.TrimSuffix(one, "\n") + "\r\n", one[:len(one)-2] + "\n",
		strings.Repeat(one, 1000), strings.Repeat("\n", 1<<18), strings.Repeat("x", 1<<18), strings.Repeat(" ", 1<<18), text + strings.Repeat("x", 1<<18),
	} {
		checkNoIndexText(t, s)
	}
	for i := range text {
		if i != 0 && text[i-1] != '\n' {
			checkNoIndexText(t, text[:i])
		} else {
			checkIndexText(t, text[:i])
		}
	}
}

func TestEachChangeOfAnIndexText(t *testing.T) {
	eachChange(indexTextModel([]impl.Line{keyedLine("a)/", 5, 0, 7), lineWith(keyedLine("a)/", 5, 0, 8), func(x *impl.Line) { x.Revisit = true })}), func(s string) { checkIndexText(t, s) })
}

func TestRowsOfLinesOfAnIndexText(t *testing.T) {
	few, taken := fewLines(), 0
	parts := []string{lineTextModel(few[0]) + "\n", lineTextModel(few[1]) + "\n", lineTextModel(few[2]) + "\n", lineTextModel(few[3]), "\n", "\r\n", " "}
	eachPieces(parts, 5, func(s string) {
		_, ok := impl.ReadIndex(s)
		taken += oneIf(ok)
		checkIndexText(t, s)
	})
	if taken != 16 {
		t.Errorf("%d texts are taken", taken)
	}
}

// roomyLines is l with spare room behind it, and the whole of that memory.
func roomyLines(l []impl.Line) ([]impl.Line, []impl.Line) {
	memory := append(slices.Clone(l), keyedLine("y)/", 1, 1, 1), keyedLine("z)/", 1, 1, 1), impl.Line{})
	return memory[:len(l)], memory
}

// lineAnswers are all lists of lines that the functions answer of l.
func lineAnswers(l []impl.Line) map[string][]impl.Line {
	few := fewLines()
	list := map[string][]impl.Line{}
	for i, x := range append(few, keyedLine("zz)/", 1, 1, 1), keyedLine("0)/", 1, 1, 1), impl.Line{}) {
		list[fmt.Sprintf("IndexAdd of the line %d", i)], _ = impl.IndexAdd(l, x)
	}
	for name, other := range map[string][]impl.Line{"none": nil, "itself": l, "few": few, "the last": few[6:]} {
		list["IndexMerge with "+name], _ = impl.IndexMerge(l, other)
		list["IndexMerge behind "+name], _ = impl.IndexMerge(other, l)
	}
	list["ReadIndex"], _ = impl.ReadIndex(impl.IndexText(l))
	return list
}

func TestIndexesHandedInStay(t *testing.T) {
	for _, l := range append(wrongIndexes(), nil, fewLines(), fewLines()[2:5], manyLines(30), manyLines(impl.MaxLines-1), manyLines(impl.MaxLines)) {
		given, memory := roomyLines(l)
		before := slices.Clone(memory)
		lineAnswers(given)
		impl.IndexOk(given)
		impl.IndexRange(given, "b,a)/")
		impl.Closest(given, "b,a)/", impl.SdClient, "GET", 6)
		impl.IndexMerge(given, memory[len(l):len(l)+1])
		if !slices.Equal(memory, before) {
			t.Errorf("%s, with the room behind them, became %s", linesShown(before), linesShown(memory))
		}
	}
}

func TestIndexesAnsweredAreNewMemory(t *testing.T) {
	written := impl.Line{Key: "written into"}
	for _, l := range [][]impl.Line{nil, fewLines(), fewLines()[2:5], manyLines(30), manyLines(impl.MaxLines)} {
		given, memory := roomyLines(l)
		before := slices.Clone(memory)
		want := lineAnswers(l)
		for name, answer := range lineAnswers(given) {
			for i := range answer {
				answer[i] = written
			}
			// The room behind an answer is no one else's, either.
			_ = append(answer, written)
			if !slices.Equal(memory, before) {
				t.Fatalf("%s hands out the memory of what was handed in", name)
			}
			if again := lineAnswers(given)[name]; !slices.Equal(again, want[name]) {
				t.Errorf("%s answers otherwise the second time", name)
			}
		}
	}
}
