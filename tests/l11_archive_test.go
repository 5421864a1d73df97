package tests

import (
	"fmt"
	"math"
	"slices"
	"strconv"
	"strings"
	"testing"

	"loop.example/g00651/impl"
)

// passed is an exchange by that method; an answer to HEAD has no payload, whatever is told.
func passed(side int, method, url string, asked, at int, payload string) impl.Exch {
	answer := answerOf(200, "OK", payload)
	if method == "HEAD" {
		answer = bareOf(200, "OK")
	}
	return impl.Exch{Side: side, Asked: asked, At: at, Url: url, Request: headLines(method + " " + url + " HTTP/1.1"), Answer: msgText(answer)}
}

// manyPassed are of both sides, with payloads that come once, twice and thrice, from one address and from others; some were asked ahead of those that came ahead of them.
func manyPassed() []impl.Exch {
	return []impl.Exch{
		passed(impl.SdOrigin, "GET", "http://b.a/", 5, 7, "one"), passed(impl.SdClient, "GET", "http://b.a/", 5, 7, "one"),
		passed(impl.SdClient, "HEAD", "http://b.a/x", 6, 7, ""), passed(impl.SdOrigin, "POST", "http://a/?q", 7, 9, "two"),
		passed(impl.SdClient, "GET", "http://c:81/", 9, 9, "one"), passed(impl.SdClient, "POST", "http://a/?q", 3, 10, ""),
		passed(impl.SdOrigin, "GET", "http://b.a/", 4, 10, "two"), passed(impl.SdClient, "GET", "http://b.a/", 0, 11, "three"),
	}
}

// fewPassed are few and short, for what is gone through byte by byte.
func fewPassed() []impl.Exch {
	return []impl.Exch{
		passed(impl.SdOrigin, "GET", "http://a/", 5, 7, "one"), passed(impl.SdClient, "GET", "http://a/", 4, 7, "one"),
		passed(impl.SdClient, "HEAD", "http://b/", 7, 8, ""), passed(impl.SdClient, "POST", "http://a/", 9, 9, "two"),
	}
}

// othersPassed are n exchanges, each with a payload of its own.
func othersPassed(n int) []impl.Exch {
	var list []impl.Exch
	for i := range n {
		list = append(list, passed(i%2, "GET", "http://a/", i, i, fmt.Sprintf("payload %d", i)))
	}
	return list
}

// samePassed are n exchanges, all with one payload.
func samePassed(n int) []impl.Exch {
	var list []impl.Exch
	for i := range n {
		list = append(list, passed(i%2, "GET", "http://a/", i, i, "same"))
	}
	return list
}

func sameArch(a, b impl.Archive) bool {
	return sameStore(a.Store, b.Store) && a.Rotate == b.Rotate && a.Every == b.Every && a.Recs == b.Recs && a.Fresh == b.Fresh && slices.Equal(a.Index, b.Index)
}

func archShown(a impl.Archive) string {
	return fmt.Sprintf("[rotate %d every %d recs %d fresh %d %s index %s]", a.Rotate, a.Every, a.Recs, a.Fresh, told(a.Store), linesShown(a.Index))
}

// copied shares no memory with a, so that it can be changed.
func copied(a impl.Archive) impl.Archive {
	a.Store.Segs = slices.Clone(a.Store.Segs)
	a.Index = slices.Clone(a.Index)
	return a
}

func archWith(a impl.Archive, change func(a *impl.Archive)) impl.Archive {
	a = copied(a)
	change(&a)
	return a
}

func lastSeg(a *impl.Archive) *impl.Seg {
	return &a.Store.Segs[len(a.Store.Segs)-1]
}

// syncedArch is what a is when all of it is synced.
func syncedArch(a impl.Archive) impl.Archive {
	return archWith(a, func(a *impl.Archive) {
		a.Fresh = 0
		lastSeg(a).Safe = len(lastSeg(a).Data)
	})
}

// The rules told in another way: the disk of chapter 4's tests under the models of chapters 8 to 10, and what is read as long rows of records.

func storeModel(st impl.Store) bool {
	all := ""
	for i, s := range st.Segs {
		last := i == len(st.Segs)-1
		if s.Safe < 0 || s.Safe > len(s.Data) || !last && (len(s.Data) == 0 || s.Safe < len(s.Data)) {
			return false
		}
		all += s.Data
	}
	return st.Cap >= 0 && st.Cap <= 60000 && len(st.Segs) > 0 && len(st.Segs) < 41 && len(all) <= st.Cap
}

func payloadOf(e impl.Exch) string {
	return e.Answer[headEndModel(e.Answer):]
}

func groupTexts(e impl.Exch, id, refers int) []string {
	var list []string
	for _, r := range groupOf(e, id, refers) {
		list = append(list, recTextModel(r))
	}
	return list
}

func archLine(e impl.Exch, revisit bool, seg, at, size int) impl.Line {
	u, _ := readUrlModel(e.Url)
	method, _, _ := strings.Cut(e.Request, " ")
	status, _ := strconv.Atoi(e.Answer[9:12])
	return impl.Line{Key: surtModel(u), Time: e.Asked, Side: e.Side, Method: method, Status: status, Label: labelModel(payloadOf(e)), Revisit: revisit, Seg: seg, At: at, Size: size}
}

func setUpModel(room, rotate, every int) bool {
	return room >= 0 && room <= 60000 && rotate >= 1 && rotate <= 60000 && every >= 1 && every <= 100
}

// archPut puts e behind a, of which d is the disk; holders are the numbers of the answers that have the payloads.
func archPut(a impl.Archive, d diskModel, holders map[string]int, e impl.Exch) (impl.Archive, diskModel, bool) {
	refers, size, info, code := holders[payloadOf(e)], len(d.all)-d.lastBegin(), "", impl.StOk
	texts := groupTexts(e, a.Recs, refers)
	if size > 0 && size+len(strings.Join(texts, "")) > a.Rotate {
		if d, code = d.rolled(); code != impl.StOk {
			return a, d, false
		}
		size, a.Fresh = 0, 0
	}
	if size == 0 {
		info = recTextModel(infoRec(a.Recs, e.At, someInfo))
		a.Recs++
		texts = groupTexts(e, a.Recs, refers)
	}
	if d, code = d.appended(info + strings.Join(texts, "")); code != impl.StOk {
		return a, d, false
	}
	a.Index = append(a.Index, archLine(e, refers > 0, len(d.begins)-1, size+len(info)+len(texts[0]), len(texts[1])))
	if refers == 0 {
		holders[payloadOf(e)] = a.Recs + 1
	}
	a.Recs += 3
	a.Fresh = (a.Fresh + 1) % a.Every
	if a.Fresh == 0 {
		d.safe = len(d.all)
	}
	return a, d, true
}

func archModel(room, rotate, every int, l []impl.Exch) (impl.Archive, int) {
	if !setUpModel(room, rotate, every) {
		return impl.Archive{}, 1
	}
	if len(l) > 200 {
		return impl.Archive{}, 3
	}
	a, d, holders, ok := impl.Archive{Rotate: rotate, Every: every}, newDisk(room), map[string]int{}, true
	for i, e := range l {
		if !exchModel(e) || i > 0 && e.At < l[i-1].At {
			return impl.Archive{}, 2
		}
		if a, d, ok = archPut(a, d, holders, e); !ok {
			return impl.Archive{}, 3
		}
	}
	a.Store = d.store()
	slices.SortFunc(a.Index, compareModel)
	return a, 0
}

// A found is what a reading of a store has found: its exchanges, their lines, the segment in which it ended, and where in that one its groups end.
type found struct {
	list  []impl.Exch
	lines []impl.Line
	seg   int
	ends  []int
}

// fromRead is the exchange of three records, where ahead are the answers that were read ahead of them.
func fromRead(l []impl.Rec, ahead []impl.Rec) (impl.Exch, bool) {
	if l[1].Kind != impl.RcRevisit {
		return fromModel(l, "")
	}
	i := slices.IndexFunc(ahead, func(r impl.Rec) bool { return r.Kind == impl.RcAnswer && r.Id == l[1].Refers && r.Label == l[1].Label })
	if i < 0 {
		return impl.Exch{}, false
	}
	return fromModel(l, ahead[i].Block[headEndModel(ahead[i].Block):])
}

// firstRecords are the records at the beginning of s, and where each of them begins, and the last one ends.
func firstRecords(s string) (list []impl.Rec, cuts []int) {
	cuts = []int{0}
	for at := 0; ; {
		r, size, ok := readRecModel(s[at:])
		if !ok {
			return list, cuts
		}
		at += size
		list, cuts = append(list, r), append(cuts, at)
	}
}

func foundModel(st impl.Store) found {
	f := found{seg: -1}
	if !storeModel(st) {
		return f
	}
	var ahead []impl.Rec
	for seg, s := range st.Segs {
		f.seg, f.ends = seg, nil
		recs, cuts := firstRecords(s.Data)
		if s.Data == "" {
			break
		}
		if len(recs) == 0 || recs[0].Kind != impl.RcInfo || recs[0].Id != len(ahead) {
			break
		}
		ahead = append(ahead, recs[0])
		n := 1
		for ; n+3 <= len(recs); n += 3 {
			e, ok := fromRead(recs[n:n+3], ahead)
			if !ok || recs[n].Id != len(ahead) {
				break
			}
			f.list = append(f.list, e)
			f.lines = append(f.lines, archLine(e, recs[n+1].Kind == impl.RcRevisit, seg, cuts[n+1], cuts[n+2]-cuts[n+1]))
			f.ends = append(f.ends, cuts[n+3])
			ahead = append(ahead, recs[n:n+3]...)
		}
		if n != len(recs) || cuts[n] != len(s.Data) {
			break
		}
	}
	slices.SortFunc(f.lines, compareModel)
	return f
}

func archOkModel(a impl.Archive) bool {
	f := foundModel(a.Store)
	want, code := archModel(a.Store.Cap, a.Rotate, a.Every, f.list)
	if code != 0 || a.Fresh < 0 || a.Fresh >= a.Every || a.Fresh > len(f.ends) {
		return false
	}
	// The group ahead of the first fresh one ends where what is synced ends.
	want.Fresh, lastSeg(&want).Safe = a.Fresh, 0
	if a.Fresh < len(f.ends) {
		lastSeg(&want).Safe = f.ends[len(f.ends)-a.Fresh-1]
	}
	return sameArch(a, want)
}

func recoverModel(st impl.Store, rotate, every int) (impl.Archive, int) {
	f := foundModel(st)
	want, code := archModel(st.Cap, rotate, every, f.list)
	if code != 0 || f.seg < 0 || f.seg < len(st.Segs)-1 {
		return impl.Archive{}, 1
	}
	end := 0
	if len(f.ends) > 0 {
		end = f.ends[len(f.ends)-1]
	}
	left := storeOf(st.Cap, nil, st.Segs[f.seg].Data[:end], "").Segs
	if end == 0 && f.seg > 0 {
		left = nil
	}
	want = syncedArch(want)
	if !slices.Equal(slices.Concat(st.Segs[:f.seg], left), want.Store.Segs) {
		return impl.Archive{}, 1
	}
	return want, 0
}

func exportModel(b string) ([]impl.Exch, bool) {
	recs, ok := readRecsModel(b)
	for i := range recs {
		ok = ok && (i == 0 || recs[i].Id > recs[i-1].Id)
	}
	if !ok {
		return nil, false
	}
	recs = slices.DeleteFunc(recs, func(r impl.Rec) bool { return r.Kind == impl.RcInfo })
	var list []impl.Exch
	for n := 0; n < len(recs); n += 3 {
		if n+3 > len(recs) {
			return nil, false
		}
		e, ok := fromRead(recs[n:n+3], recs[:n])
		if !ok {
			return nil, false
		}
		list = append(list, e)
	}
	return list, true
}

func importModel(a impl.Archive, b string) (impl.Archive, int) {
	if !archOkModel(a) {
		return impl.Archive{}, 1
	}
	if a.Recs > 0 {
		return impl.Archive{}, 4
	}
	l, ok := exportModel(b)
	if !ok {
		return impl.Archive{}, 2
	}
	want, code := archModel(a.Store.Cap, a.Rotate, a.Every, l)
	if code != 0 {
		return impl.Archive{}, code
	}
	return syncedArch(want), 0
}

func exchsShown(l []impl.Exch) string {
	text := fmt.Sprintf("%d exchanges", len(l))
	for _, e := range l[:min(len(l), 3)] {
		text += " [" + exchShown(e) + "]"
	}
	return text
}

func checkExchs(t *testing.T, what string, got, want []impl.Exch) {
	t.Helper()
	if !slices.Equal(got, want) {
		t.Errorf("%s are %s, not %s", what, exchsShown(got), exchsShown(want))
	}
}

func checkArch(t *testing.T, what string, got impl.Archive, code int, want impl.Archive, wantCode int) {
	t.Helper()
	if code != wantCode || !sameArch(got, want) {
		t.Errorf("%s is %s with the code %d, not %s with %d", what, archShown(got), code, archShown(want), wantCode)
	}
}

func mustArch(t *testing.T, room, rotate, every int, l []impl.Exch) impl.Archive {
	t.Helper()
	a, code := impl.ArchOf(room, rotate, every, l)
	if code != impl.ArOk {
		t.Fatalf("ArchOf(%d, %d, %d, %s) has the code %d", room, rotate, every, exchsShown(l), code)
	}
	return a
}

// checkArchOf holds an archive made at once, and one made step by step, against the rules.
func checkArchOf(t *testing.T, room, rotate, every int, l []impl.Exch) {
	t.Helper()
	want, wantCode := archModel(room, rotate, every, l)
	got, code := impl.ArchOf(room, rotate, every, l)
	what := fmt.Sprintf("ArchOf(%d, %d, %d, %s)", room, rotate, every, exchsShown(l))
	checkArch(t, what, got, code, want, wantCode)
	a, ok := impl.ArchNew(room, rotate, every)
	if !ok {
		return
	}
	code = impl.ArOk
	for _, e := range l[:min(len(l), impl.MaxList)] {
		if a, code = impl.ArchAdd(a, e); code != impl.ArOk {
			break
		}
	}
	if len(l) <= impl.MaxList {
		checkArch(t, "step by step, "+what, a, code, want, wantCode)
	}
}

// checkFound holds Rebuild against the rules, whatever st is.
func checkFound(t *testing.T, st impl.Store) {
	t.Helper()
	want := foundModel(st)
	list, lines := impl.Rebuild(st)
	checkExchs(t, "the exchanges rebuilt of "+told(st), list, want.list)
	checkLines(t, "the lines rebuilt of "+told(st), lines, true, want.lines, true)
}

func checkRecover(t *testing.T, st impl.Store, rotate, every int) {
	t.Helper()
	want, wantCode := recoverModel(st, rotate, every)
	got, code := impl.Recover(st, rotate, every)
	checkArch(t, fmt.Sprintf("Recover(%s, %d, %d)", told(st), rotate, every), got, code, want, wantCode)
}

func checkReadExport(t *testing.T, b string) {
	t.Helper()
	want, wantOk := exportModel(b)
	got, ok := impl.ReadExport(b)
	if ok != wantOk || !slices.Equal(got, want) {
		t.Errorf("ReadExport(%.300q of %d) is %s and %v, not %s and %v", b, len(b), exchsShown(got), ok, exchsShown(want), wantOk)
	}
}

func checkImport(t *testing.T, a impl.Archive, b string) {
	t.Helper()
	want, wantCode := importModel(a, b)
	got, code := impl.Import(a, b)
	checkArch(t, fmt.Sprintf("Import(%s, %.300q of %d)", archShown(a), b, len(b)), got, code, want, wantCode)
}

// checkKept asks an archive for all that it has, where l are its exchanges.
func checkKept(t *testing.T, a impl.Archive, l []impl.Exch) {
	t.Helper()
	if !impl.ArchOk(a) || !archOkModel(a) {
		t.Errorf("%s is no archive", archShown(a))
	}
	checkExchs(t, "the exchanges of "+archShown(a), impl.Exchanges(a), l)
	checkArch(t, "synced, "+archShown(a), impl.ArchSync(a), 0, syncedArch(a), 0)
	list, lines := impl.Rebuild(a.Store)
	checkExchs(t, "the exchanges rebuilt of "+archShown(a), list, l)
	checkLines(t, "the lines rebuilt of "+archShown(a), lines, true, a.Index, true)
	again, code := impl.Recover(a.Store, a.Rotate, a.Every)
	checkArch(t, "recovered, "+archShown(a), again, code, syncedArch(a), 0)
	checkExported(t, a, l)
	checkPayloads(t, a, l)
	checkPlaces(t, a)
}

func checkExported(t *testing.T, a impl.Archive, l []impl.Exch) {
	t.Helper()
	all, text := "", impl.Export(a)
	for _, s := range a.Store.Segs {
		all += s.Data
	}
	if text != all || impl.Grammar(text) != a.Recs {
		t.Errorf("the text of %s has %d records for a looser reader", archShown(a), impl.Grammar(text))
	}
	list, ok := impl.ReadExport(text)
	checkExchs(t, "the exchanges in the text of "+archShown(a), list, l)
	empty, _ := impl.ArchNew(a.Store.Cap, a.Rotate, a.Every)
	got, code := impl.Import(empty, text)
	checkArch(t, "imported, "+archShown(a), got, code, syncedArch(a), 0)
	if !ok {
		t.Errorf("the text of %s is refused", archShown(a))
	}
}

// checkPayloads asks for each payload in one answer record, the one that is found.
func checkPayloads(t *testing.T, a impl.Archive, l []impl.Exch) {
	t.Helper()
	holders := map[string][]int{}
	recs, _ := readRecsModel(impl.Export(a))
	for _, r := range recs {
		if r.Kind == impl.RcAnswer {
			payload := r.Block[headEndModel(r.Block):]
			holders[payload] = append(holders[payload], r.Id)
		}
	}
	for _, e := range l {
		ids := holders[payloadOf(e)]
		if got := impl.Find(a, payloadOf(e)); len(ids) != 1 || got != ids[0] {
			t.Errorf("%.40q is found in the record %d; %v have it in %s", payloadOf(e), got, ids, archShown(a))
		}
	}
	for _, payload := range []string{"", "on", "one ", "One", "\x00", "nobody's", impl.InfoBlock, strings.Repeat("x", 1<<16)} {
		if got := impl.Find(a, payload); got != -1 && len(holders[payload]) == 0 {
			t.Errorf("%.40q, which nobody has, is found in the record %d of %s", payload, got, archShown(a))
		}
	}
}

// checkPlaces asks for the record and the payload of each line, and of lines that are not there.
func checkPlaces(t *testing.T, a impl.Archive) {
	t.Helper()
	recs, _ := readRecsModel(impl.Export(a))
	for k, x := range a.Index {
		want, size, ok := readRecModel(a.Store.Segs[x.Seg].Data[x.At:])
		got, is := impl.RecAt(a, k)
		if !ok || size != x.Size || !is || got != want || (got.Kind == impl.RcRevisit) != x.Revisit {
			t.Errorf("line %d leads to %s, not %s", k, recShown(got), recShown(want))
		}
		holder := want
		if x.Revisit {
			holder = recs[slices.IndexFunc(recs, func(r impl.Rec) bool { return r.Id == want.Refers })]
		}
		payload, is := impl.Resolve(a, k)
		if !is || payload != holder.Block[headEndModel(holder.Block):] || holder.Kind != impl.RcAnswer || labelModel(payload) != x.Label {
			t.Errorf("line %d leads to the payload %.40q of %s", k, payload, recShown(holder))
		}
	}
	for _, k := range []int{math.MinInt, -1 << 32, -2, -1, len(a.Index), len(a.Index) + 1, 1 << 32, math.MaxInt} {
		checkNoPlace(t, a, k)
	}
}

func checkNoPlace(t *testing.T, a impl.Archive, k int) {
	t.Helper()
	if r, ok := impl.RecAt(a, k); ok || r != (impl.Rec{}) {
		t.Errorf("line %d of %s leads to %s", k, archShown(a), recShown(r))
	}
	if payload, ok := impl.Resolve(a, k); ok || payload != "" {
		t.Errorf("line %d of %s leads to the payload %.40q", k, archShown(a), payload)
	}
}

// checkNoArch asks all that can be asked of an archive of what is none.
func checkNoArch(t *testing.T, a impl.Archive) {
	t.Helper()
	if impl.ArchOk(a) || archOkModel(a) {
		t.Errorf("%s is an archive", archShown(a))
	}
	last := passed(impl.SdClient, "GET", "http://z/", impl.MaxTime, impl.MaxTime, "z")
	for _, e := range []impl.Exch{last, {}} {
		got, code := impl.ArchAdd(a, e)
		checkArch(t, "with one more, what is no archive", got, code, impl.Archive{}, impl.ArBad)
	}
	for _, b := range []string{"", "x", recTextModel(infoRec(0, 0, someInfo))} {
		got, code := impl.Import(a, b)
		checkArch(t, "with a text, what is no archive", got, code, impl.Archive{}, impl.ArBad)
	}
	checkArch(t, "synced, what is no archive", impl.ArchSync(a), 0, impl.Archive{}, 0)
	if l, text := impl.Exchanges(a), impl.Export(a); len(l) > 0 || text != "" {
		t.Errorf("%s has %s and the text %.60q", archShown(a), exchsShown(l), text)
	}
	for _, payload := range []string{"", "one", "two"} {
		if got := impl.Find(a, payload); got != -1 {
			t.Errorf("%q is found in the record %d of %s", payload, got, archShown(a))
		}
	}
	for _, k := range []int{-1, 0, 1, len(a.Index) - 1} {
		checkNoPlace(t, a, k)
	}
}

// checkAnyArch holds ArchOk against the rules, and then asks a for all that it has, or that it has nothing.
func checkAnyArch(t *testing.T, a impl.Archive) {
	t.Helper()
	if archOkModel(a) {
		checkKept(t, a, foundModel(a.Store).list)
		return
	}
	checkNoArch(t, a)
}

func TestConstantsOfTheArchive(t *testing.T) {
	if impl.MaxEvery != 100 || impl.InfoBlock != someInfo {
		t.Error("a constant is not the document's")
	}
	if impl.ArOk != 0 || impl.ArBad != 1 || impl.ArForm != 2 || impl.ArFull != 3 || impl.ArNot != 4 {
		t.Error("a code is not the document's")
	}
}

func TestArchNew(t *testing.T) {
	rooms := []int{math.MinInt, -1 << 32, -1, 0, 1, 100, impl.MaxCap - 1, impl.MaxCap, impl.MaxCap + 1, 1 << 32, math.MaxInt}
	rotates := []int{math.MinInt, -1 << 32, -1, 0, 1, 2, 100, impl.MaxCap - 1, impl.MaxCap, impl.MaxCap + 1, 1 << 32, 1<<32 + 1, math.MaxInt}
	everys := []int{math.MinInt, -1 << 32, -1, 0, 1, 2, 3, 99, impl.MaxEvery, impl.MaxEvery + 1, 255, 256, 257, 1 << 32, 1<<32 + 1, math.MaxInt}
	for _, room := range rooms {
		for _, rotate := range rotates {
			for _, every := range everys {
				want := impl.Archive{Store: impl.Store{Segs: []impl.Seg{{}}, Cap: room}, Rotate: rotate, Every: every}
				right := room >= 0 && room <= 60000 && rotate >= 1 && rotate <= 60000 && every >= 1 && every <= 100
				code, of := impl.ArOk, want
				if !right {
					want, of, code = impl.Archive{}, impl.Archive{}, impl.ArBad
				}
				got, ok := impl.ArchNew(room, rotate, every)
				if ok != right || !sameArch(got, want) || impl.ArchOk(got) != right {
					t.Errorf("ArchNew(%d, %d, %d) is %s and %v", room, rotate, every, archShown(got), ok)
				}
				got, gotCode := impl.ArchOf(room, rotate, every, nil)
				checkArch(t, fmt.Sprintf("ArchOf(%d, %d, %d) of nothing", room, rotate, every), got, gotCode, of, code)
				// What refuses the set-up comes first, whatever the list is.
				if !right {
					got, gotCode = impl.ArchOf(room, rotate, every, make([]impl.Exch, impl.MaxList+1))
					checkArch(t, "with a list that is too long", got, gotCode, of, code)
					got, gotCode = impl.Recover(newStore(t, max(0, min(room, 9))), rotate, every)
					if rotate < 1 || rotate > 60000 || every < 1 || every > 100 {
						checkArch(t, "recovered", got, gotCode, impl.Archive{}, impl.ArBad)
					}
				}
			}
		}
	}
	checkNoArch(t, impl.Archive{})
}

func TestTheEmptyArchive(t *testing.T) {
	for _, room := range []int{0, 1, 2000, impl.MaxCap} {
		a, _ := impl.ArchNew(room, 1, 1)
		checkKept(t, a, nil)
		if impl.Export(a) != "" || impl.Find(a, "") != -1 {
			t.Errorf("%s is not empty", archShown(a))
		}
		a.Index, a.Store.Segs = []impl.Line{}, append(a.Store.Segs, impl.Seg{})[:1]
		checkKept(t, a, nil)
	}
	one, _ := impl.ArchNew(9, 1, 1)
	two, _ := impl.ArchNew(9, 1, 1)
	one.Store.Segs[0].Data = "x"
	if two.Store.Segs[0].Data != "" {
		t.Error("two new archives share their segments")
	}
}

func TestAnArchiveByHand(t *testing.T) {
	ask := "GET http://a.b/ HTTP/1.1\r\n\r\n"
	l := []impl.Exch{
		{Side: 1, Asked: 7, At: 8, Url: "http://a.b/", Request: ask, Answer: "HTTP/1.1 200 OK\r\nContent-Length: 3\r\n\r\nabc"},
		{Side: 0, Asked: 6, At: 9, Url: "http://a.b/", Request: ask, Answer: "HTTP/1.1 404 No\r\nContent-Length: 3\r\n\r\nabc"},
	}
	label, askLabel := "sha1:VGMT4NSHA2AWVOR6EVYXQUGCNSONBWE5", labelModel(ask)
	info := "WARC/1.1\r\nWARC-Type: warcinfo\r\nWARC-Record-ID: <urn:stillroom:0>\r\nWARC-Date: 1970-01-01T00:00:08Z\r\nWARC-Block-Digest: " + labelModel(someInfo) + "\r\nContent-Type: application/warc-fields\r\nContent-Length: 39\r\n\r\nsoftware: stillroom\r\nformat: WARC/1.1\r\n\r\n\r\n"
	record := func(kind, id, second, lines, block, content string) string {
		return "WARC/1.1\r\nWARC-Type: " + kind + "\r\nWARC-Record-ID: <urn:stillroom:" + id + ">\r\nWARC-Date: 1970-01-01T00:00:0" + second + "Z\r\nWARC-Target-URI: http://a.b/\r\n" + lines + "WARC-Block-Digest: " + labelModel(block) + "\r\nContent-Type: application/" + content + "\r\nContent-Length: " + strconv.Itoa(len(block)) + "\r\n\r\n" + block + "\r\n\r\n"
	}
	first := []string{
		record("request", "1", "7", "", ask, "http"), record("response", "2", "8", "WARC-Payload-Digest: "+label+"\r\n", l[0].Answer, "http"),
		record("metadata", "3", "8", "", "side: origin\r\ncommits: 1\r\n", "warc-fields"),
	}
	second := []string{
		record("request", "4", "6", "", ask, "http"), record("revisit", "5", "9", "WARC-Refers-To: <urn:stillroom:2>\r\nWARC-Profile: identical-payload-digest\r\nWARC-Payload-Digest: "+label+"\r\n", "HTTP/1.1 404 No\r\nContent-Length: 3\r\n\r\n", "http"),
		record("metadata", "6", "9", "", "side: client\r\ncommits: 4\r\n", "warc-fields"),
	}
	one, two := info+strings.Join(first, ""), strings.Join(second, "")
	lines := []impl.Line{
		{Key: "b,a)/", Time: 6, Side: 0, Method: "GET", Status: 404, Label: label, Revisit: true, Seg: 0, At: len(one + second[0]), Size: len(second[1])},
		{Key: "b,a)/", Time: 7, Side: 1, Method: "GET", Status: 200, Label: label, Seg: 0, At: len(info + first[0]), Size: len(first[1])},
	}
	want := impl.Archive{Store: storeOf(5000, nil, "", one+two), Rotate: 5000, Every: 3, Recs: 7, Fresh: 2, Index: lines}
	a := mustArch(t, 5000, 5000, 3, l)
	checkArch(t, "the archive by hand", a, 0, want, 0)
	checkKept(t, a, l)
	if askLabel == label || impl.Export(a) != one+two || impl.Find(a, "abc") != 2 || impl.Find(a, "ab") != -1 {
		t.Errorf("%s has other bytes", archShown(a))
	}
	for k, x := range lines {
		r, ok := impl.RecAt(a, k)
		payload, is := impl.Resolve(a, k)
		if !ok || r.Id != []int{5, 2}[k] || impl.RecText(r) != (one + two)[x.At:x.At+x.Size] || !is || payload != "abc" {
			t.Errorf("line %d leads to %s and %q", k, recShown(r), payload)
		}
	}
}

// setUps are Rotate and Every: each exchange in a segment of its own, a few in one, all in one; synced each time, now and then, and never.
func setUps() [][2]int {
	var list [][2]int
	for _, rotate := range []int{1, 1000, 2100, 3100, impl.MaxCap} {
		for _, every := range []int{1, 2, 3, impl.MaxEvery} {
			list = append(list, [2]int{rotate, every})
		}
	}
	return list
}

// Promises 12 and 15.
func TestArchivesOfExchanges(t *testing.T) {
	t.Parallel()
	lists := [][]impl.Exch{othersPassed(9), samePassed(9), fewExchs()[:3], {smallExchs()[1], smallExchs()[0]}}
	for n := range len(manyPassed()) + 1 {
		lists = append(lists, manyPassed()[:n])
	}
	for _, l := range lists {
		for _, s := range setUps() {
			checkArchOf(t, impl.MaxCap, s[0], s[1], l)
			checkKept(t, mustArch(t, impl.MaxCap, s[0], s[1], l), l)
		}
	}
}

// Promise 12: what is put behind is the last exchange, and all else stays.
func TestWhatIsPutBehind(t *testing.T) {
	for _, s := range setUps() {
		a, _ := impl.ArchNew(impl.MaxCap, s[0], s[1])
		for i, e := range manyPassed() {
			ahead, exported := impl.Exchanges(a), impl.Export(a)
			next, code := impl.ArchAdd(a, e)
			if code != impl.ArOk || !strings.HasPrefix(impl.Export(next), exported) || len(next.Index) != i+1 || next.Recs < a.Recs+3 || next.Recs > a.Recs+4 {
				t.Fatalf("%s became %s", archShown(a), archShown(next))
			}
			checkExchs(t, "the exchanges", impl.Exchanges(next), append(slices.Clone(ahead), e))
			for _, x := range a.Index {
				if !slices.Contains(next.Index, x) {
					t.Errorf("the line %s is gone", lineShown(x))
				}
			}
			for seg, old := range a.Store.Segs {
				if !strings.HasPrefix(next.Store.Segs[seg].Data, old.Data) || next.Store.Segs[seg].Safe < old.Safe {
					t.Errorf("segment %d of %s is another one in %s", seg, archShown(a), archShown(next))
				}
			}
			a = next
		}
	}
}

func TestMessagesOfEveryKindAreKept(t *testing.T) {
	t.Parallel()
	var l []impl.Exch
	check := func() {
		checkArchOf(t, impl.MaxCap, 3000, 2, l)
		checkKept(t, mustArch(t, impl.MaxCap, 3000, 2, l), l)
		l = nil
	}
	for _, e := range fewExchs() {
		if l = append(l, e); len(l) == 20 {
			check()
		}
	}
	check()
	for i, url := range ownUrls() {
		e := passed(i%2, "PUT", url, i, i, "the same")
		if l = append(l, e); len(l) == 20 {
			check()
		}
	}
	check()
	// The longest exchange there is.
	head := headLines("POST "+someUrl+" HTTP/1.1", "Transfer-Encoding: chunked")
	text, _ := paddedChunks(impl.MaxMsg - len(head))
	answer := msgText(grown(answerOf(200, "OK", strings.Repeat("b", impl.MaxBody)), impl.MaxHead))
	l = []impl.Exch{exchOf(head+text, answer), exchOf(head+text, answer)}
	check()
}

// usedBy is how many bytes an archive of these has that begins no second segment.
func usedBy(t *testing.T, l []impl.Exch) int {
	t.Helper()
	a, code := archModel(impl.MaxCap, impl.MaxCap, 1, l)
	if code != 0 {
		t.Fatalf("%s have no archive", exchsShown(l))
	}
	return len(a.Store.Segs[0].Data)
}

// A group that comes to just Rotate stays in the segment, also where with an info record its numbers would be longer.
func TestWhereSegmentsBegin(t *testing.T) {
	t.Parallel()
	for _, l := range [][]impl.Exch{othersPassed(8), samePassed(8), manyPassed()} {
		for n := 1; n <= len(l); n++ {
			just := usedBy(t, l[:n])
			for _, rotate := range []int{just - 1, just, just + 1} {
				checkArchOf(t, impl.MaxCap, rotate, 100, l)
				a := mustArch(t, impl.MaxCap, rotate, 100, l[:n])
				want := 1
				if rotate < just && n > 1 {
					want = 2
				}
				if len(a.Store.Segs) != want || a.Recs != 3*n+want || want == 2 && (a.Fresh != 1 || a.Store.Segs[0].Safe == 0 || a.Store.Segs[1].Safe != 0) {
					t.Errorf("with %d for %d exchanges that have %d bytes: %s", rotate, n, just, archShown(a))
				}
				checkKept(t, a, l[:n])
			}
		}
	}
}

// A payload is referred to also from behind a segment that was begun.
func TestPayloadsAreKeptOnce(t *testing.T) {
	t.Parallel()
	for _, s := range setUps() {
		a := mustArch(t, impl.MaxCap, s[0], s[1], samePassed(12))
		revisits := 0
		for k, x := range a.Index {
			revisits += oneIf(x.Revisit)
			if r, ok := impl.RecAt(a, k); !ok || x.Revisit && r.Refers != 2 {
				t.Errorf("line %d leads to %s", k, recShown(r))
			}
		}
		if revisits != 11 || impl.Find(a, "same") != 2 {
			t.Errorf("%d revisits in %s", revisits, archShown(a))
		}
		b := mustArch(t, impl.MaxCap, s[0], s[1], othersPassed(12))
		if slices.ContainsFunc(b.Index, func(x impl.Line) bool { return x.Revisit }) {
			t.Errorf("a payload of its own is referred to in %s", archShown(b))
		}
	}
	l := []impl.Exch{passed(0, "GET", "http://a/", 1, 1, ""), passed(1, "HEAD", "http://b/", 2, 2, ""), passed(0, "GET", "http://a/", 3, 3, "x")}
	a := mustArch(t, impl.MaxCap, impl.MaxCap, 9, l)
	if impl.Find(a, "") != 2 || impl.Find(a, "x") != 8 || !a.Index[2].Revisit || a.Index[0].Revisit || a.Index[1].Revisit {
		t.Errorf("payloads of no byte in %s", archShown(a))
	}
	payload, ok := impl.Resolve(a, 2)
	if !ok || payload != "" {
		t.Errorf("the payload of no byte is %q and %v", payload, ok)
	}
}

func TestRoomOfArchives(t *testing.T) {
	t.Parallel()
	for _, l := range [][]impl.Exch{othersPassed(5), samePassed(5), manyPassed()} {
		for _, s := range setUps() {
			for n := 1; n <= len(l); n++ {
				whole, _ := archModel(impl.MaxCap, s[0], s[1], l[:n])
				just := impl.Used(whole.Store)
				for _, room := range []int{just - 1, just, just + 1} {
					checkArchOf(t, room, s[0], s[1], l)
					a, code := impl.ArchOf(room, s[0], s[1], l[:n])
					if (code == impl.ArOk) != (room >= just) || code != impl.ArOk && code != impl.ArFull {
						t.Errorf("with room for %d of %d bytes: %s and the code %d", room, just, archShown(a), code)
					}
				}
			}
		}
	}
	// There is room for the group, and for the info record, but not for both.
	l := othersPassed(2)
	one, two, both := usedBy(t, l[:1]), usedBy(t, l[1:]), mustArch(t, impl.MaxCap, 1, 9, l)
	group, info := usedBy(t, l)-one, len(recTextModel(infoRec(4, 1, someInfo)))
	for room := one; room < one+group+info; room += 7 {
		got, code := impl.ArchOf(room, 1, 9, l)
		checkArch(t, "with no room for the info record", got, code, impl.Archive{}, impl.ArFull)
	}
	got, code := impl.ArchOf(one+group+info, 1, 9, l)
	if code != impl.ArOk || two != group+info || impl.Used(got.Store) != impl.Used(both.Store) {
		t.Errorf("%s with the code %d", archShown(got), code)
	}
	checkArchOf(t, one+group+info-1, 1, 9, l)
	a := mustArch(t, one+group+info-1, 1, 9, l[:1])
	got, code = impl.ArchAdd(a, l[1])
	checkArch(t, "with one more", got, code, impl.Archive{}, impl.ArFull)
	checkKept(t, a, l[:1])
}

func TestSegmentsRunOut(t *testing.T) {
	t.Parallel()
	l := othersPassed(impl.MaxSegs + 1)
	for _, every := range []int{1, 3, 100} {
		a := mustArch(t, impl.MaxCap, 1, every, l[:impl.MaxSegs])
		if len(a.Store.Segs) != impl.MaxSegs || impl.Used(a.Store) > impl.MaxCap-2000 {
			t.Fatalf("%s", archShown(a))
		}
		checkKept(t, a, l[:impl.MaxSegs])
		got, code := impl.ArchAdd(a, l[impl.MaxSegs])
		checkArch(t, "with one segment too many", got, code, impl.Archive{}, impl.ArFull)
		checkArchOf(t, impl.MaxCap, 1, every, l)
	}
	checkKept(t, mustArch(t, impl.MaxCap, impl.MaxCap, 9, l), l)
}

func TestFullArchives(t *testing.T) {
	t.Parallel()
	for _, l := range [][]impl.Exch{othersPassed(impl.MaxList), samePassed(impl.MaxList)} {
		for _, rotate := range []int{5000, impl.MaxCap} {
			a, _ := impl.ArchNew(impl.MaxCap, rotate, 7)
			n, code := 0, impl.ArOk
			for next := a; code == impl.ArOk; n++ {
				a = next
				next, code = impl.ArchAdd(a, l[n])
			}
			if n--; code != impl.ArFull || n < 50 || n > 80 || impl.MaxCap-impl.Used(a.Store) > 1500 {
				t.Errorf("behind %d exchanges the code is %d: %s", n, code, archShown(a))
			}
			checkKept(t, a, l[:n])
			checkArchOf(t, impl.MaxCap, rotate, 7, l[:n+1])
		}
	}
}

func TestListsOfArchives(t *testing.T) {
	right := othersPassed(impl.MaxList + 1)
	wrong := append([]impl.Exch{{}}, right...)
	for _, c := range []struct {
		room, rotate, every int
		l                   []impl.Exch
		code                int
	}{
		{60000, 1, 1, right[:200], impl.ArFull}, {60000, 1, 1, right[:201], impl.ArFull}, {60000, 1, 1, wrong[:200], impl.ArForm}, {60000, 1, 1, wrong[:201], impl.ArFull}, {60000, 1, 1, wrong[:1], impl.ArForm},
		{60001, 1, 1, right[:201], impl.ArBad}, {60000, 0, 1, right[:201], impl.ArBad}, {60000, 1, 0, wrong[:201], impl.ArBad}, {60001, 1, 1, wrong[:1], impl.ArBad},
		{0, 1, 1, right[:1], impl.ArFull}, {0, 1, 1, wrong[:1], impl.ArForm}, {0, 1, 1, wrong[:2], impl.ArForm}, {0, 1, 1, append(right[:1:1], impl.Exch{}), impl.ArFull},
		{1500, 1, 1, append(right[:1:1], impl.Exch{}, right[1]), impl.ArForm}, {1500, 1, 1, append(right[:2:2], impl.Exch{}), impl.ArFull}, {60000, 1, 1, append(right[:2:2], impl.Exch{}), impl.ArForm},
		{60000, 1, 1, make([]impl.Exch, 100000), impl.ArFull},
	} {
		got, code := impl.ArchOf(c.room, c.rotate, c.every, c.l)
		checkArch(t, fmt.Sprintf("ArchOf(%d, %d, %d, %s)", c.room, c.rotate, c.every, exchsShown(c.l)), got, code, impl.Archive{}, c.code)
		checkArchOf(t, c.room, c.rotate, c.every, c.l)
	}
}

func TestTimesRise(t *testing.T) {
	e := othersPassed(1)[0]
	times := []int{0, 1, 2, someTime - 1, someTime, someTime + 1, impl.MaxTime - 1, impl.MaxTime}
	for _, s := range setUps() {
		for _, first := range times {
			for _, second := range append(times, first-1) {
				l := []impl.Exch{exchWith(e, func(e *impl.Exch) { e.At = first }), exchWith(e, func(e *impl.Exch) { e.At = max(second, 0) })}
				code := impl.ArOk
				if l[1].At < first {
					code = impl.ArForm
				}
				a := mustArch(t, impl.MaxCap, s[0], s[1], l[:1])
				if _, got := impl.ArchAdd(a, l[1]); got != code {
					t.Errorf("at %d behind %d the code is %d", l[1].At, first, got)
				}
				if _, got := impl.ArchOf(impl.MaxCap, s[0], s[1], l); got != code {
					t.Errorf("at %d behind %d the code is %d at once", l[1].At, first, got)
				}
			}
		}
	}
	// When it was asked does not matter, nor whether there is room.
	l := []impl.Exch{passed(0, "GET", "http://a/", 8, 9, "x"), passed(0, "GET", "http://a/", 0, 9, "x"), passed(0, "GET", "http://a/", 8, 8, "x")}
	for _, room := range []int{usedBy(t, l[:2]), impl.MaxCap} {
		a := mustArch(t, room, impl.MaxCap, 9, l[:2])
		got, code := impl.ArchAdd(a, l[2])
		checkArch(t, "with an earlier one", got, code, impl.Archive{}, impl.ArForm)
		got, code = impl.ArchOf(room, impl.MaxCap, 9, l)
		checkArch(t, "at once with an earlier one", got, code, impl.Archive{}, impl.ArForm)
	}
}

func TestWhatIsNoExchangeIsNotPut(t *testing.T) {
	l := fewPassed()
	for _, s := range setUps() {
		for _, room := range []int{0, usedBy(t, l[:1]), impl.MaxCap} {
			for n := range 2 {
				a, code := impl.ArchOf(room, s[0], s[1], l[:n])
				if code != impl.ArOk {
					continue
				}
				for _, change := range []func(e *impl.Exch){
					func(e *impl.Exch) { *e = impl.Exch{} }, func(e *impl.Exch) { e.Side = 2 }, func(e *impl.Exch) { e.Asked = e.At + 1 }, func(e *impl.Exch) { e.At = impl.MaxTime + 1 },
					func(e *impl.Exch) { e.Url += "x" }, func(e *impl.Exch) { e.Request = " " + e.Request }, func(e *impl.Exch) { e.Answer += "x" }, func(e *impl.Exch) { e.Answer = strings.ToLower(e.Answer) },
				} {
					e := exchWith(l[1], change)
					got, code := impl.ArchAdd(a, e)
					checkArch(t, "with what is no exchange", got, code, impl.Archive{}, impl.ArForm)
					checkArchOf(t, room, s[0], s[1], append(slices.Clone(l[:n]), e, l[1]))
				}
			}
		}
	}
}

// freshArch is a with so many groups at its end not synced, by the rule of Safe.
func freshArch(a impl.Archive, fresh int) impl.Archive {
	ends := foundModel(a.Store).ends
	return archWith(a, func(a *impl.Archive) {
		a.Fresh, lastSeg(a).Safe = fresh, 0
		if fresh >= 0 && fresh < len(ends) {
			lastSeg(a).Safe = ends[len(ends)-1-fresh]
		}
	})
}

func TestFreshOfArchives(t *testing.T) {
	t.Parallel()
	l := othersPassed(5)
	for _, c := range []struct{ rotate, n, groups int }{{60000, 5, 5}, {60000, 3, 3}, {60000, 1, 1}, {1, 3, 1}, {usedBy(t, l[:2]) + 100, 4, 2}, {usedBy(t, l[:2]) + 100, 3, 1}, {usedBy(t, l[:3]) + 100, 5, 2}} {
		for every := 1; every <= 7; every++ {
			a := mustArch(t, impl.MaxCap, c.rotate, every, l[:c.n])
			for _, fresh := range []int{math.MinInt, -2, -1, 0, 1, 2, 3, 4, 5, 6, 7, 99, 100, 1 << 32, math.MaxInt} {
				b := freshArch(a, fresh)
				right := fresh >= 0 && fresh < every && fresh <= c.groups
				if impl.ArchOk(b) != right {
					t.Errorf("ArchOk of every %d, %d groups in the last segment: %s", every, c.groups, archShown(b))
				}
				if !right {
					checkNoArch(t, b)
					continue
				}
				checkKept(t, b, l[:c.n])
				checkSafe(t, b)
				next, code := impl.ArchAdd(b, passed(0, "GET", "http://z/", 9, 9, "z"))
				begun := len(next.Store.Segs) > len(b.Store.Segs)
				want := fresh + 1
				if begun {
					want = 1
				}
				if code != impl.ArOk || next.Fresh != want%every || want == every && impl.Loose(next.Store) != 0 {
					t.Errorf("%s with one more is %s", archShown(b), archShown(next))
				}
				checkKept(t, next, append(slices.Clone(l[:c.n]), passed(0, "GET", "http://z/", 9, 9, "z")))
			}
		}
	}
}

// checkSafe changes what is synced of an archive: just one number is right.
func checkSafe(t *testing.T, a impl.Archive) {
	t.Helper()
	right := lastSeg(&a).Safe
	ends := foundModel(a.Store).ends
	info := len(recTextModel(infoRec(0, 0, someInfo)))
	for _, safe := range append(ends, math.MinInt, -1, 0, 1, info-1, info, info+1, right-1, right, right+1, len(lastSeg(&a).Data)-1, len(lastSeg(&a).Data), len(lastSeg(&a).Data)+1, math.MaxInt) {
		b := archWith(a, func(a *impl.Archive) { lastSeg(a).Safe = safe })
		if impl.ArchOk(b) != (safe == right) {
			t.Errorf("ArchOk with %d in place of %d: %s", safe, right, archShown(b))
		}
	}
}

// Promise 12: what is synced outlives every crash.
func TestArchSync(t *testing.T) {
	t.Parallel()
	l := manyPassed()
	for _, s := range setUps() {
		for n := range len(l) + 1 {
			a := mustArch(t, impl.MaxCap, s[0], s[1], l[:n])
			b := impl.ArchSync(a)
			if b.Fresh != 0 || impl.Loose(b.Store) != 0 || impl.Export(b) != impl.Export(a) || b.Recs != a.Recs || !slices.Equal(b.Index, a.Index) {
				t.Errorf("%s, synced, is %s", archShown(a), archShown(b))
			}
			checkArch(t, "synced twice", impl.ArchSync(b), 0, b, 0)
			for _, keep := range []int{-1, 0, 1, 1000} {
				again, code := impl.Recover(impl.Crash(b.Store, keep), s[0], s[1])
				checkArch(t, "behind a crash", again, code, b, impl.ArOk)
			}
			if n < len(l) {
				next, code := impl.ArchAdd(b, l[n])
				checkExchs(t, "behind what was synced", impl.Exchanges(next), l[:n+1])
				if code != impl.ArOk || next.Fresh != 1%s[1] {
					t.Errorf("behind %s comes %s", archShown(b), archShown(next))
				}
			}
		}
	}
}

// checkCrashes lets a crash leave each number of bytes of what was not synced: what is recovered is the archive of the first exchanges, of all whose bytes are left whole.
func checkCrashes(t *testing.T, a impl.Archive, l []impl.Exch) {
	t.Helper()
	var wants []impl.Archive
	for n := range len(l) + 1 {
		want, _ := archModel(a.Store.Cap, a.Rotate, a.Every, l[:n])
		wants = append(wants, syncedArch(want))
		again, code := impl.Recover(wants[n].Store, a.Rotate, a.Every)
		checkArch(t, fmt.Sprintf("recovered again, %d exchanges", n), again, code, wants[n], impl.ArOk)
	}
	n := len(l) - a.Fresh
	for keep := range impl.Loose(a.Store) + 1 {
		st := impl.Crash(a.Store, keep)
		for n < len(l) && impl.Used(wants[n+1].Store) <= impl.Used(st) {
			n++
		}
		got, code := impl.Recover(st, a.Rotate, a.Every)
		checkArch(t, fmt.Sprintf("with %d bytes left of %s, what is recovered", keep, archShown(a)), got, code, wants[n], impl.ArOk)
	}
	if n != len(l) {
		t.Errorf("with all bytes left of %s there are %d exchanges", archShown(a), n)
	}
	for _, keep := range []int{math.MinInt, -1, impl.Loose(a.Store) + 1, math.MaxInt} {
		got, code := impl.Recover(impl.Crash(a.Store, keep), a.Rotate, a.Every)
		want := wants[len(l)]
		if keep < 0 {
			want = wants[len(l)-a.Fresh]
		}
		checkArch(t, fmt.Sprintf("with %d bytes left, what is recovered", keep), got, code, want, impl.ArOk)
	}
}

// Promise 13.
func TestCrashesOfArchives(t *testing.T) {
	t.Parallel()
	l := fewPassed()
	for _, rotate := range []int{1, usedBy(t, l[:2]), usedBy(t, l[:3]), impl.MaxCap} {
		for _, every := range []int{1, 2, 3, 100} {
			for n := range len(l) + 1 {
				// Ahead of the last exchanges the same bytes were left already.
				if n == 1 || n > 2 {
					checkCrashes(t, mustArch(t, impl.MaxCap, rotate, every, l[:n]), l[:n])
				}
			}
		}
		for fresh := range 3 {
			a := mustArch(t, impl.MaxCap, rotate, 100, l)
			if b := freshArch(a, fresh); impl.ArchOk(b) {
				checkCrashes(t, b, l)
			}
		}
	}
}

// Behind a crash, another set-up finds its own archive there, or none.
func TestCrashesUnderAnotherSetUp(t *testing.T) {
	t.Parallel()
	l := fewPassed()
	rotates := []int{1, usedBy(t, l[:2]) - 1, usedBy(t, l[:2]), usedBy(t, l[:3]), impl.MaxCap}
	for _, rotate := range rotates {
		a := mustArch(t, impl.MaxCap, rotate, 100, l)
		for keep := 0; keep <= impl.Loose(a.Store); keep += 50 {
			st := impl.Crash(a.Store, keep)
			for _, other := range append(rotates, 0, -1, impl.MaxCap+1) {
				for _, every := range []int{1, 7, 0, impl.MaxEvery + 1} {
					checkRecover(t, st, other, every)
				}
			}
		}
	}
	one := mustArch(t, impl.MaxCap, impl.MaxCap, 9, l[:2])
	got, code := impl.Recover(one.Store, 1, 9)
	checkArch(t, "where each exchange should begin a segment", got, code, impl.Archive{}, impl.ArBad)
	two := mustArch(t, impl.MaxCap, 1, 9, l[:2])
	got, code = impl.Recover(two.Store, impl.MaxCap, 9)
	checkArch(t, "where none should begin a segment", got, code, impl.Archive{}, impl.ArBad)
	got, code = impl.Recover(impl.Crash(two.Store, 100), impl.MaxCap, 5)
	checkArch(t, "where one is left", got, code, syncedArch(mustArch(t, impl.MaxCap, impl.MaxCap, 5, l[:1])), impl.ArOk)
}

// A long row of steps, each held against the rules: what was synced is never lost, and what is there are always the first exchanges.
func TestRowsOfStepsOfArchives(t *testing.T) {
	t.Parallel()
	for seed := range uint32(25) {
		steps := mixedBytes(400, seed+1)
		next := func(n int) int {
			b := int(steps[0])<<8 | int(steps[1])
			steps = steps[2:]
			return b % n
		}
		room, rotate, every := 9000+next(20000), 1+next(5000), 1+next(6)
		want, d, holders := impl.Archive{Rotate: rotate, Every: every}, newDisk(room), map[string]int{}
		a, _ := impl.ArchNew(room, rotate, every)
		var l []impl.Exch
		at := 0
		for len(steps) > 20 {
			switch next(8) {
			case 0:
				a, want.Fresh, d.safe = impl.ArchSync(a), 0, len(d.all)
			case 1:
				keep, synced := next(2500)-100, len(l)-a.Fresh
				recovered, code := impl.Recover(impl.Crash(a.Store, keep), rotate, every)
				left := impl.Exchanges(recovered)
				if code != impl.ArOk || len(left) < synced || len(left) > len(l) || !slices.Equal(left, l[:len(left)]) {
					t.Fatalf("with %d bytes left of %s there is %s with the code %d", keep, archShown(a), archShown(recovered), code)
				}
				a, l = recovered, l[:len(left):len(left)]
				want, d, holders = impl.Archive{Rotate: rotate, Every: every}, newDisk(room), map[string]int{}
				for _, e := range l {
					want, d, _ = archPut(want, d, holders, e)
				}
				want.Fresh, d.safe = 0, len(d.all)
			default:
				at += next(3)
				e := passed(next(2), []string{"GET", "HEAD", "POST"}[next(3)], []string{"http://a/", "http://b.a/x?", "http://c:8/"}[next(3)], next(at+1), at, []string{"", "one", "two", strings.Repeat("three", 50)}[next(4)])
				more, moreDisk, ok := archPut(want, d, holders, e)
				got, code := impl.ArchAdd(a, e)
				if ok != (code == impl.ArOk) || !ok && (code != impl.ArFull || !sameArch(got, impl.Archive{})) {
					t.Fatalf("%s with one more is %s with the code %d", archShown(a), archShown(got), code)
				}
				if ok {
					a, want, d, l = got, more, moreDisk, append(l, e)
				}
			}
			want.Store = d.store()
			told := archWith(want, func(a *impl.Archive) { slices.SortFunc(a.Index, compareModel) })
			checkArch(t, fmt.Sprintf("in row %d", seed), a, 0, told, 0)
		}
		checkKept(t, a, l)
	}
}

func TestExportsOfArchives(t *testing.T) {
	t.Parallel()
	for _, l := range [][]impl.Exch{nil, manyPassed()[:1], manyPassed(), fewPassed(), samePassed(6)} {
		for _, s := range setUps() {
			a := mustArch(t, impl.MaxCap, s[0], s[1], l)
			text := impl.Export(a)
			for _, set := range append(setUps(), [2]int{usedBy(t, l), 9}, [2]int{max(usedBy(t, l)-1, 1), 9}) {
				for _, room := range []int{impl.MaxCap, len(text), max(len(text)-1, 0)} {
					empty, _ := impl.ArchNew(room, set[0], set[1])
					checkImport(t, empty, text)
					if set == s && room == impl.MaxCap {
						got, code := impl.Import(empty, text)
						checkArch(t, "imported with the same set-up", got, code, impl.ArchSync(a), impl.ArOk)
						if impl.Export(got) != text {
							t.Errorf("the text of %s is another one", archShown(got))
						}
					}
				}
			}
		}
	}
}

func TestImportRefuses(t *testing.T) {
	l := fewPassed()
	empty, _ := impl.ArchNew(impl.MaxCap, impl.MaxCap, 9)
	small, _ := impl.ArchNew(1500, impl.MaxCap, 9)
	one := mustArch(t, impl.MaxCap, impl.MaxCap, 9, l[:1])
	wrong := archWith(empty, func(a *impl.Archive) { a.Recs = 1 })
	text := impl.Export(mustArch(t, impl.MaxCap, 1, 9, l))
	falling := recsText(groupOf(l[3], 1, 0), groupOf(l[0], 4, 0))
	for _, c := range []struct {
		a    impl.Archive
		b    string
		code int
	}{
		{wrong, text, impl.ArBad}, {wrong, "x", impl.ArBad}, {impl.Archive{}, "", impl.ArBad}, {one, text, impl.ArNot}, {one, "x", impl.ArNot}, {one, "", impl.ArNot}, {impl.ArchSync(one), "", impl.ArNot},
		{empty, text + "x", impl.ArForm}, {empty, "x", impl.ArForm}, {empty, text[1:], impl.ArForm}, {empty, text[:len(text)-1], impl.ArForm}, {empty, text + text, impl.ArForm}, {small, "x", impl.ArForm},
		{empty, falling, impl.ArForm}, {small, falling, impl.ArForm}, {small, text, impl.ArFull}, {empty, strings.Repeat("x", impl.MaxCap+1), impl.ArForm},
	} {
		got, code := impl.Import(c.a, c.b)
		checkArch(t, fmt.Sprintf("Import(%s, %.80q)", archShown(c.a), c.b), got, code, impl.Archive{}, c.code)
		checkImport(t, c.a, c.b)
	}
	if got, ok := impl.ReadExport(falling); !ok || !slices.Equal(got, []impl.Exch{l[3], l[0]}) {
		t.Errorf("times that fall are read as %s", exchsShown(got))
	}
	for _, b := range []string{"", recTextModel(infoRec(7, 9, "x"))} {
		got, code := impl.Import(empty, b)
		checkArch(t, "with a text of no exchange", got, code, empty, impl.ArOk)
	}
}

// recsText are the texts of records, row behind row.
func recsText(rows ...[]impl.Rec) string {
	text := ""
	for _, r := range slices.Concat(rows...) {
		text += recTextModel(r)
	}
	return text
}

// Promise 14: any text is refused, or taken as the exchanges that stand in it.
func TestTextsThatAreCut(t *testing.T) {
	t.Parallel()
	l := fewPassed()
	empty, _ := impl.ArchNew(impl.MaxCap, 1, 9)
	for _, rotate := range []int{1, impl.MaxCap} {
		a := mustArch(t, impl.MaxCap, rotate, 9, l[:3])
		text := impl.Export(a)
		taken := 0
		for n := range len(text) + 1 {
			list, ok := impl.ReadExport(text[:n])
			taken += oneIf(ok)
			if ok && !slices.Equal(list, l[:len(list)]) {
				t.Errorf("cut behind %d bytes there are %s", n, exchsShown(list))
			}
			checkReadExport(t, text[:n])
			if ok || n%100 == 0 {
				checkImport(t, empty, text[:n])
			}
		}
		// Behind nothing, each info record and each group.
		if want := 1 + len(a.Store.Segs) + 3; taken != want {
			t.Errorf("%d beginnings are taken, not %d", taken, want)
		}
		for i := range 256 {
			checkReadExport(t, text+string([]byte{byte(i)}))
			checkReadExport(t, string([]byte{byte(i)})+text)
		}
	}
}

func TestTextsThatAreChanged(t *testing.T) {
	t.Parallel()
	l := fewPassed()
	empty, _ := impl.ArchNew(impl.MaxCap, impl.MaxCap, 9)
	text := impl.Export(mustArch(t, impl.MaxCap, impl.MaxCap, 9, l[:2]))
	eachFewChange(text, func(s string) { checkReadExport(t, s) })
	for at := 0; at < len(text); at += 41 {
		checkImport(t, empty, text[:at]+"0"+text[at+1:])
	}
}

// eachFewChange is eachChange with a few bytes alone.
func eachFewChange(s string, f func(string)) {
	for at := range len(s) {
		ahead, behind := s[:at], s[at+1:]
		f(ahead + behind)
		f(ahead + s[at:at+1] + s[at:])
		for _, b := range []byte{s[at] + 1, s[at] - 1, s[at] ^ 32, 0} {
			f(ahead + string([]byte{b}) + behind)
		}
	}
}

func TestTextsOfRecords(t *testing.T) {
	l := fewPassed()
	info := func(id int) []impl.Rec { return []impl.Rec{infoRec(id, 3, "any")} }
	first, again := groupOf(l[0], 1, 0), groupOf(l[1], 4, 2)
	for _, c := range []struct {
		rows [][]impl.Rec
		want []impl.Exch
		ok   bool
	}{
		{nil, nil, true}, {[][]impl.Rec{info(0)}, nil, true}, {[][]impl.Rec{info(5), info(6), info(impl.MaxId)}, nil, true},
		{[][]impl.Rec{first}, l[:1], true}, {[][]impl.Rec{info(0), first}, l[:1], true}, {[][]impl.Rec{first, again}, l[:2], true}, {[][]impl.Rec{first, again, info(7)}, l[:2], true}, {[][]impl.Rec{first, again, info(7), info(99)}, l[:2], true},
		{[][]impl.Rec{groupOf(l[0], 7, 0), groupOf(l[1], 99, 8)}, l[:2], true}, {[][]impl.Rec{groupOf(l[0], 7, 0), info(50), groupOf(l[1], impl.MaxId-2, 8)}, l[:2], true},
		{[][]impl.Rec{first, groupOf(l[1], 4, 0)}, l[:2], true}, {[][]impl.Rec{first, groupOf(l[1], 4, 0), groupOf(l[0], 7, 5)}, []impl.Exch{l[0], l[1], l[0]}, true},
		// Numbers that do not rise.
		{[][]impl.Rec{info(0), info(0)}, nil, false}, {[][]impl.Rec{info(1), info(0)}, nil, false}, {[][]impl.Rec{info(1), first}, nil, false}, {[][]impl.Rec{first, first}, nil, false}, {[][]impl.Rec{first, groupOf(l[1], 3, 2)}, nil, false}, {[][]impl.Rec{groupOf(l[3], 4, 0), first}, nil, false},
		{[][]impl.Rec{first, info(3)}, nil, false}, {[][]impl.Rec{first, info(0)}, nil, false}, {[][]impl.Rec{first, info(4), again}, nil, false}, {[][]impl.Rec{first, again, info(6)}, nil, false},
		// Records that are no group.
		{[][]impl.Rec{first[:1]}, nil, false}, {[][]impl.Rec{first[:2]}, nil, false}, {[][]impl.Rec{first[1:]}, nil, false}, {[][]impl.Rec{first[2:]}, nil, false}, {[][]impl.Rec{first, again[:1]}, nil, false}, {[][]impl.Rec{first, again[:2]}, nil, false}, {[][]impl.Rec{first[:2], again}, nil, false}, {[][]impl.Rec{first[:1], first[2:]}, nil, false}, {[][]impl.Rec{first[:1], first[2:], first[1:2]}, nil, false}, {[][]impl.Rec{first, again[1:]}, nil, false},
		{[][]impl.Rec{first[:2], info(7)}, nil, false}, {[][]impl.Rec{first, again[:2], info(9)}, nil, false}, {[][]impl.Rec{groupWith(first, 2, func(r *impl.Rec) { r.Id = 4 })}, nil, false}, {[][]impl.Rec{groupWith(first, 2, func(r *impl.Rec) { r.Url = "http://b/" })}, nil, false},
		// Payloads that are not there.
		{[][]impl.Rec{again}, nil, false}, {[][]impl.Rec{again, groupOf(l[0], 7, 0)}, nil, false}, {[][]impl.Rec{groupOf(l[1], 1, 1)}, nil, false}, {[][]impl.Rec{first, groupOf(l[1], 4, 1)}, nil, false}, {[][]impl.Rec{first, groupOf(l[1], 4, 3)}, nil, false}, {[][]impl.Rec{first, groupOf(l[1], 4, 4)}, nil, false}, {[][]impl.Rec{info(1), groupOf(l[0], 2, 0), groupOf(l[1], 5, 1)}, nil, false},
		{[][]impl.Rec{first, again, groupOf(l[0], 7, 5)}, nil, false}, {[][]impl.Rec{first, groupOf(l[3], 4, 2)}, nil, false}, {[][]impl.Rec{first, groupOf(l[3], 4, 0), groupOf(l[0], 7, 5)}, nil, false}, {[][]impl.Rec{first, groupWith(again, 1, func(r *impl.Rec) { r.Label = labelModel("two") })}, nil, false},
	} {
		text := recsText(c.rows...)
		got, ok := impl.ReadExport(text)
		if ok != c.ok || !slices.Equal(got, c.want) {
			t.Errorf("%s are read as %s and %v", groupShown(slices.Concat(c.rows...)), exchsShown(got), ok)
		}
		checkReadExport(t, text)
	}
	// What is referred to is an answer record, although another one has the same bytes behind a head.
	asked := impl.Exch{Url: "http://a/", Request: headLines("PUT http://a/ HTTP/1.1", "Content-Length: 3") + "one", Answer: msgText(answerOf(200, "OK", "two"))}
	for _, rows := range [][][]impl.Rec{{groupOf(asked, 1, 0), groupOf(l[0], 4, 1)}, {{infoRec(1, 3, "x\r\n\r\none")}, groupOf(l[0], 4, 1)}} {
		if got, ok := impl.ReadExport(recsText(rows...)); ok || len(got) > 0 {
			t.Errorf("%s are read as %s", groupShown(slices.Concat(rows...)), exchsShown(got))
		}
		checkReadExport(t, recsText(rows...))
	}
	// A record of information within a group, with whatever number.
	for at := 1; at < 3; at++ {
		for id := range 6 {
			for shift := range 2 {
				row := slices.Insert(slices.Clone(first), at, infoRec(id, 3, "any"))
				for i := at + 1; i < len(row); i++ {
					row[i].Id += shift
				}
				if got, ok := impl.ReadExport(recsText(row)); ok || len(got) > 0 {
					t.Errorf("%s is read as %s", groupShown(row), exchsShown(got))
				}
				checkReadExport(t, recsText(row))
			}
		}
	}
}

// Every short row of records of a few groups.
func TestEachTextOfRecords(t *testing.T) {
	t.Parallel()
	l := fewPassed()
	parts := [][]impl.Rec{{infoRec(0, 3, "any")}, {infoRec(4, 3, "any")}, groupOf(l[0], 1, 0), groupOf(l[1], 5, 2), groupOf(l[1], 5, 0), groupOf(l[3], 5, 0), groupOf(l[0], 8, 2), groupOf(l[0], 8, 6), groupOf(l[0], 1, 0)[:2], groupOf(l[1], 5, 2)[1:]}
	taken := 0
	eachRow(parts, 4, func(rows [][]impl.Rec) {
		text := recsText(rows...)
		_, ok := impl.ReadExport(text)
		taken += oneIf(ok)
		if ok || len(rows) < 4 {
			checkReadExport(t, text)
		} else if _, right := exportModel(text); right {
			t.Errorf("%s is refused", groupShown(slices.Concat(rows...)))
		}
	})
	if taken < 20 {
		t.Errorf("%d rows are taken", taken)
	}
}

func TestTheLongestText(t *testing.T) {
	var rows []impl.Rec
	size := 0
	for id := range 14 {
		r := infoRec(id, 3, strings.Repeat("x", 3900))
		rows = append(rows, r)
		size += len(recTextModel(r))
	}
	last := infoRec(14, 3, "")
	for _, n := range []int{impl.MaxCap - 1, impl.MaxCap, impl.MaxCap + 1} {
		// The length of the block is told in as many digits each time.
		r := with(last, func(r *impl.Rec) { r.Block = strings.Repeat("x", 1000) })
		missing := n - size - len(recTextModel(r))
		r.Block = strings.Repeat("x", 1000+missing)
		text := recsText(rows, []impl.Rec{r})
		if len(text) != n {
			t.Fatalf("%d bytes, not %d", len(text), n)
		}
		if got, ok := impl.ReadExport(text); ok != (n <= impl.MaxCap) || len(got) > 0 {
			t.Errorf("%d bytes are read as %s and %v", n, exchsShown(got), ok)
		}
		checkReadExport(t, text)
	}
}

// archChanges are changes of an archive that make it none, each for one reason.
func archChanges(a impl.Archive) []impl.Archive {
	var list []impl.Archive
	change := func(f func(a *impl.Archive)) { list = append(list, archWith(a, f)) }
	for _, n := range []int{math.MinInt, -1, 0, impl.MaxCap + 1, 1 << 32, math.MaxInt} {
		change(func(a *impl.Archive) { a.Rotate = n })
		change(func(a *impl.Archive) { a.Every = n })
	}
	change(func(a *impl.Archive) { a.Every = a.Fresh })
	change(func(a *impl.Archive) { a.Every = impl.MaxEvery + 1 })
	for _, n := range []int{math.MinInt, -1, a.Fresh - 1, a.Fresh + 1, a.Every, a.Every + 1, impl.MaxEvery, 1 << 32, math.MaxInt} {
		change(func(a *impl.Archive) { a.Fresh = n })
	}
	for _, n := range []int{math.MinInt, -1, 0, a.Recs - 1, a.Recs + 1, a.Recs + 1<<32, math.MaxInt} {
		change(func(a *impl.Archive) { a.Recs = n })
	}
	for _, n := range []int{math.MinInt, -1, 0, impl.Used(a.Store) - 1, impl.MaxCap + 1, math.MaxInt} {
		change(func(a *impl.Archive) { a.Store.Cap = n })
	}
	for i := range a.Store.Segs {
		for _, step := range []int{-1, 1, -len(a.Store.Segs[i].Data) - 1} {
			change(func(a *impl.Archive) { a.Store.Segs[i].Safe += step })
		}
		change(func(a *impl.Archive) { a.Store.Segs[i].Data += "x" })
		change(func(a *impl.Archive) { a.Store.Segs[i].Data = a.Store.Segs[i].Data[1:] })
		change(func(a *impl.Archive) { a.Store.Segs[i].Data = "" })
		change(func(a *impl.Archive) { a.Store.Segs = slices.Delete(a.Store.Segs, i, i+1) })
		change(func(a *impl.Archive) { a.Store.Segs = slices.Insert(a.Store.Segs, i, impl.Seg{}) })
		change(func(a *impl.Archive) { a.Store.Segs = slices.Insert(a.Store.Segs, i, a.Store.Segs[i]) })
	}
	change(func(a *impl.Archive) { a.Store.Segs = nil })
	change(func(a *impl.Archive) { a.Store.Segs = append(a.Store.Segs, impl.Seg{}) })
	change(func(a *impl.Archive) {
		*lastSeg(a) = synced(lastSeg(a).Data)
		a.Store.Segs = append(a.Store.Segs, impl.Seg{})
	})
	return append(list, indexChanges(a)...)
}

func indexChanges(a impl.Archive) []impl.Archive {
	var list []impl.Archive
	change := func(f func(a *impl.Archive)) { list = append(list, archWith(a, f)) }
	for k := range a.Index {
		for _, f := range []func(x *impl.Line){
			func(x *impl.Line) { x.Key += "x" }, func(x *impl.Line) { x.Key = "" }, func(x *impl.Line) { x.Time++ }, func(x *impl.Line) { x.Time-- }, func(x *impl.Line) { x.Side = 1 - x.Side }, func(x *impl.Line) { x.Method = "PUT" }, func(x *impl.Line) { x.Method = "" },
			func(x *impl.Line) { x.Status++ }, func(x *impl.Line) { x.Label = labelModel("x") }, func(x *impl.Line) { x.Label = strings.ToLower(x.Label) }, func(x *impl.Line) { x.Revisit = !x.Revisit },
			func(x *impl.Line) { x.Seg++ }, func(x *impl.Line) { x.Seg-- }, func(x *impl.Line) { x.At++ }, func(x *impl.Line) { x.At-- }, func(x *impl.Line) { x.At = 0 }, func(x *impl.Line) { x.Size++ }, func(x *impl.Line) { x.Size-- }, func(x *impl.Line) { *x = impl.Line{} },
		} {
			change(func(a *impl.Archive) { f(&a.Index[k]) })
			change(func(a *impl.Archive) { x := a.Index[k]; f(&x); a.Index = slices.Insert(a.Index, k, x) })
		}
		change(func(a *impl.Archive) { a.Index = slices.Delete(a.Index, k, k+1) })
		change(func(a *impl.Archive) { a.Index = slices.Insert(a.Index, k, a.Index[k]) })
		if k > 0 {
			change(func(a *impl.Archive) { a.Index[k-1], a.Index[k] = a.Index[k], a.Index[k-1] })
		}
	}
	change(func(a *impl.Archive) { a.Index = nil })
	change(func(a *impl.Archive) { a.Index = append(a.Index, impl.Line{}) })
	change(func(a *impl.Archive) { a.Index = append(a.Index, keyedLine("z)/", 9, 0, 0)) })
	change(func(a *impl.Archive) { a.Index = slices.Repeat(a.Index, 1000) })
	return list
}

func TestChangedArchives(t *testing.T) {
	t.Parallel()
	l := fewPassed()
	for _, c := range []struct{ rotate, every, n int }{{60000, 3, 2}, {60000, 100, 4}, {1, 2, 2}, {usedBy(t, l[:2]), 9, 3}, {60000, 2, 2}, {60000, 1, 1}} {
		a := mustArch(t, impl.MaxCap, c.rotate, c.every, l[:c.n])
		checkKept(t, a, l[:c.n])
		for _, b := range archChanges(a) {
			checkNoArch(t, b)
			checkFound(t, b.Store)
			checkRecover(t, b.Store, b.Rotate, b.Every)
		}
	}
	empty, _ := impl.ArchNew(2000, 9, 3)
	for _, change := range []func(a *impl.Archive){
		func(a *impl.Archive) { a.Recs = 1 }, func(a *impl.Archive) { a.Fresh = 1 }, func(a *impl.Archive) { a.Rotate = 0 }, func(a *impl.Archive) { a.Every = 0 }, func(a *impl.Archive) { a.Store.Cap = -1 }, func(a *impl.Archive) { a.Store.Segs = nil }, func(a *impl.Archive) { a.Store.Segs[0].Safe = 1 },
		func(a *impl.Archive) { a.Store.Segs[0].Data = "x" }, func(a *impl.Archive) { a.Store.Segs = append(a.Store.Segs, impl.Seg{}) }, func(a *impl.Archive) { a.Index = make([]impl.Line, 1) }, func(a *impl.Archive) { a.Store.Segs[0] = synced(recTextModel(infoRec(0, 0, someInfo))); a.Recs = 1 },
	} {
		checkNoArch(t, archWith(empty, change))
	}
}

// Another set-up may have the same archive.
func TestArchivesOfSeveralSetUps(t *testing.T) {
	t.Parallel()
	l := fewPassed()[:3]
	just := usedBy(t, l)
	for _, c := range []struct {
		rotate, other int
		right         bool
	}{{60000, just, true}, {60000, just - 1, false}, {60000, 1, false}, {just, 60000, true}, {just, just - 1, false}, {just - 1, just, false}, {just - 1, just - 2, true}, {1, 2, true}, {1, 60000, false}, {1, 900, true}} {
		a := mustArch(t, impl.MaxCap, c.rotate, 9, l)
		b := archWith(a, func(a *impl.Archive) { a.Rotate = c.other })
		if impl.ArchOk(b) != c.right {
			t.Errorf("an archive of %d is one of %d: %v", c.rotate, c.other, !c.right)
		}
		checkAnyArch(t, b)
		for every := 1; every <= 6; every++ {
			checkAnyArch(t, archWith(a, func(a *impl.Archive) { a.Every = every }))
		}
		for _, room := range []int{impl.Used(a.Store), impl.Used(a.Store) + 1, 50000} {
			checkKept(t, archWith(a, func(a *impl.Archive) { a.Store.Cap = room }), l)
		}
	}
}

// No byte of a store can be another one, or gone.
func TestEachChangeOfTheBytesOfAnArchive(t *testing.T) {
	t.Parallel()
	l := fewPassed()[:2]
	for _, rotate := range []int{1, impl.MaxCap} {
		a := mustArch(t, impl.MaxCap, rotate, 9, l)
		for seg, s := range a.Store.Segs {
			eachFewChange(s.Data, func(data string) {
				b := archWith(a, func(a *impl.Archive) { a.Store.Segs[seg].Data = data })
				if seg < len(a.Store.Segs)-1 {
					b.Store.Segs[seg].Safe = len(data)
				}
				if data != s.Data && impl.ArchOk(b) {
					t.Errorf("%s is an archive", archShown(b))
				}
				checkFound(t, b.Store)
				checkRecover(t, b.Store, rotate, 9)
			})
		}
	}
}

// storeOfRecs has a segment for each row of records, all synced.
func storeOfRecs(rows ...[]impl.Rec) impl.Store {
	st := impl.Store{Cap: impl.MaxCap}
	for _, row := range rows {
		st.Segs = append(st.Segs, synced(recsText(row)))
	}
	return st
}

func behindInfo(id, at int, groups ...[]impl.Rec) []impl.Rec {
	return append([]impl.Rec{infoRec(id, at, someInfo)}, slices.Concat(groups...)...)
}

// checkRead asks how many exchanges are read of st, and whether it can be recovered to the archive of so many.
func checkReadOf(t *testing.T, what string, st impl.Store, rotate int, l []impl.Exch, code int) {
	t.Helper()
	list, lines := impl.Rebuild(st)
	checkExchs(t, "with "+what+", the exchanges rebuilt", list, l)
	if len(lines) != len(l) || !impl.IndexOk(lines) {
		t.Errorf("with %s, %s are rebuilt", what, linesShown(lines))
	}
	checkFound(t, st)
	want := impl.Archive{}
	if code == impl.ArOk {
		want = impl.ArchSync(mustArch(t, st.Cap, rotate, 9, l))
	}
	got, gotCode := impl.Recover(st, rotate, 9)
	checkArch(t, "with "+what+", what is recovered", got, gotCode, want, code)
	checkRecover(t, st, rotate, 9)
	// All lines that it has do not make it an archive.
	a := impl.Archive{Store: st, Rotate: rotate, Every: 9, Recs: impl.Grammar(impl.AllBytes(st)), Index: lines}
	right := code == impl.ArOk && sameStore(st, want.Store)
	if impl.ArchOk(a) != right {
		t.Errorf("with %s, ArchOk is %v", what, !right)
	}
	checkAnyArch(t, a)
}

func TestStoresThatAreRead(t *testing.T) {
	l := fewPassed()
	a, b, c := groupOf(l[0], 1, 0), groupOf(l[1], 4, 2), groupOf(l[3], 7, 0)
	checkReadOf(t, "one", storeOfRecs(behindInfo(0, 7, a)), 60000, l[:1], impl.ArOk)
	checkReadOf(t, "two", storeOfRecs(behindInfo(0, 7, a, b)), 60000, l[:2], impl.ArOk)
	checkReadOf(t, "three", storeOfRecs(behindInfo(0, 7, a, b, c)), 60000, []impl.Exch{l[0], l[1], l[3]}, impl.ArOk)
	checkReadOf(t, "two segments", storeOfRecs(behindInfo(0, 7, a), behindInfo(4, 7, groupOf(l[1], 5, 2))), 1, l[:2], impl.ArOk)
	checkReadOf(t, "two segments too many", storeOfRecs(behindInfo(0, 7, a), behindInfo(4, 7, groupOf(l[1], 5, 2))), 60000, l[:2], impl.ArBad)
	checkReadOf(t, "a segment too few", storeOfRecs(behindInfo(0, 7, a, b)), 1, l[:2], impl.ArBad)
	checkReadOf(t, "nothing", storeOfRecs(nil), 1, nil, impl.ArOk)
	checkReadOf(t, "info alone", storeOfRecs(behindInfo(0, 7)), 1, nil, impl.ArOk)
	checkReadOf(t, "an empty segment behind", storeOfRecs(behindInfo(0, 7, a), nil), 1, l[:1], impl.ArOk)
	checkReadOf(t, "info alone behind", storeOfRecs(behindInfo(0, 7, a), behindInfo(4, 7)), 1, l[:1], impl.ArOk)
	checkReadOf(t, "info alone ahead", storeOfRecs(behindInfo(0, 7), behindInfo(1, 7, groupOf(l[0], 2, 0))), 1, l[:1], impl.ArBad)
	checkReadOf(t, "an empty segment ahead", storeOfRecs(nil, behindInfo(0, 7, a)), 1, nil, impl.ArBad)
	checkReadOf(t, "an empty segment between", storeOfRecs(behindInfo(0, 7, a), nil, behindInfo(4, 7, groupOf(l[1], 5, 2))), 1, nil, impl.ArBad)
	// Rebuild believes what it is told of no record but the group; the archive of these exchanges is another one.
	checkReadOf(t, "another info block", storeOfRecs(append([]impl.Rec{infoRec(0, 7, "software: x\r\n")}, a...)), 60000, l[:1], impl.ArBad)
	checkReadOf(t, "another info time", storeOfRecs(behindInfo(0, 8, a)), 60000, l[:1], impl.ArBad)
	checkReadOf(t, "times that fall", storeOfRecs(behindInfo(0, 9, groupOf(l[3], 1, 0), groupOf(l[0], 4, 0))), 60000, []impl.Exch{l[3], l[0]}, impl.ArBad)
	checkReadOf(t, "a payload twice", storeOfRecs(behindInfo(0, 7, a, groupOf(l[1], 4, 0))), 60000, l[:2], impl.ArBad)
	checkReadOf(t, "the second of two alike referred to", storeOfRecs(behindInfo(0, 7, a, groupOf(l[1], 4, 0), groupOf(l[1], 7, 5))), 60000, []impl.Exch{l[0], l[1], l[1]}, impl.ArBad)
}

func TestStoresThatAreReadUpToAPlace(t *testing.T) {
	l := fewPassed()
	a, b, c := groupOf(l[0], 1, 0), groupOf(l[1], 4, 2), groupOf(l[3], 7, 0)
	other := passed(0, "GET", "http://a/", 4, 7, "two")
	for what, rows := range map[string][]impl.Rec{
		"a number too many": groupOf(l[1], 5, 2), "a number too few": groupOf(l[1], 3, 2), "an earlier number": groupOf(l[1], 1, 0), "a number far ahead": groupOf(l[1], 400, 2), "the same group": a,
		"a mark of another number": groupWith(b, 2, func(r *impl.Rec) { r.Id++ }), "a mark for another": groupWith(b, 2, func(r *impl.Rec) { r.Block = markModel(0, 5) }), "another address": groupWith(b, 2, func(r *impl.Rec) { r.Url = "http://b/" }),
		"records in another order": {b[1], b[0], b[2]}, "the mark ahead": {b[2], b[0], b[1]}, "the answer last": {b[0], b[2], b[1]}, "no request": b[1:], "no answer": {b[0], b[2]}, "no mark": b[:2], "a request alone": b[:1],
		"a reference to a request": groupOf(l[1], 4, 1), "a reference to a mark": groupOf(l[1], 4, 3), "a reference to itself": groupOf(l[1], 4, 4), "another label": groupWith(b, 1, func(r *impl.Rec) { r.Label = labelModel("two") }), "a payload that is not there": groupOf(other, 4, 2),
		"an info record": {infoRec(4, 7, someInfo)}, "an info record ahead": append([]impl.Rec{infoRec(4, 7, someInfo)}, groupOf(l[1], 5, 2)...), "an info record within": {b[0], infoRec(5, 7, someInfo), b[1], b[2]},
	} {
		checkReadOf(t, what, storeOfRecs(behindInfo(0, 7, a, rows)), 60000, l[:1], impl.ArOk)
		checkReadOf(t, what+" and one behind", storeOfRecs(behindInfo(0, 7, a, rows, c)), 60000, l[:1], impl.ArOk)
		checkReadOf(t, what+" and a segment behind", storeOfRecs(behindInfo(0, 7, a, rows), behindInfo(7, 9, groupOf(l[3], 8, 0))), 2200, l[:1], impl.ArBad)
		// There an info record is right ahead of a group.
		if what != "an info record ahead" {
			checkReadOf(t, what+" in a segment behind", storeOfRecs(behindInfo(0, 7, a), rows), 1, l[:1], impl.ArOk)
		}
	}
	asked := impl.Exch{At: 7, Url: "http://a/", Request: headLines("PUT http://a/ HTTP/1.1", "Content-Length: 3") + "one", Answer: msgText(answerOf(200, "OK", "two"))}
	checkReadOf(t, "a reference to a request that has the payload", storeOfRecs(behindInfo(0, 7, groupOf(asked, 1, 0), groupOf(l[1], 4, 1))), 60000, []impl.Exch{asked}, impl.ArOk)
	for what, first := range map[string][]impl.Rec{
		"no info record": nil, "a number too great": {infoRec(1, 7, someInfo)}, "two info records": {infoRec(0, 7, someInfo), infoRec(1, 7, someInfo)}, "a mark": {markRec(0, 7, "http://a/", someMark)},
	} {
		checkReadOf(t, what, storeOfRecs(append(slices.Clone(first), a...)), 60000, nil, impl.ArOk)
		checkReadOf(t, what+" and one behind", storeOfRecs(append(slices.Clone(first), a...), behindInfo(4, 7, groupOf(l[1], 5, 2))), 1, nil, impl.ArBad)
	}
	for _, n := range []int{0, 3, 5, 6} {
		checkReadOf(t, fmt.Sprintf("an info record of number %d", n), storeOfRecs(behindInfo(0, 7, a), behindInfo(n, 7, groupOf(l[1], n+1, 2))), 1, l[:1], impl.ArOk)
	}
	for _, junk := range []string{"x", "\r\n", "WARC/1.1\r\n", "\x00", recTextModel(b[0])[:90], strings.Repeat("x", 5000)} {
		st := storeOfRecs(behindInfo(0, 7, a))
		st.Segs[0] = synced(st.Segs[0].Data + junk)
		checkReadOf(t, "other bytes behind", st, 60000, l[:1], impl.ArOk)
		st.Segs = append(st.Segs, synced(recsText(behindInfo(4, 7, groupOf(l[1], 5, 2)))))
		checkReadOf(t, "other bytes ahead of a segment", st, 1, l[:1], impl.ArBad)
		st.Segs = []impl.Seg{synced(junk + recsText(behindInfo(0, 7, a)))}
		checkReadOf(t, "other bytes ahead of all", st, 60000, nil, impl.ArOk)
	}
}

func TestStoresThatAreNone(t *testing.T) {
	for _, st := range wrongStores() {
		if list, lines := impl.Rebuild(st); len(list) > 0 || len(lines) > 0 {
			t.Errorf("of %s come %s and %s", told(st), exchsShown(list), linesShown(lines))
		}
		for _, s := range setUps() {
			got, code := impl.Recover(st, s[0], s[1])
			checkArch(t, "what is recovered of "+told(st), got, code, impl.Archive{}, impl.ArBad)
		}
		checkNoArch(t, impl.Archive{Store: st, Rotate: 1, Every: 1})
	}
	for _, st := range rightStores() {
		checkFound(t, st)
		checkRecover(t, st, 1, 1)
		checkAnyArch(t, impl.Archive{Store: st, Rotate: 1, Every: 1})
	}
	// What is right but for what the store says of itself.
	a := mustArch(t, impl.MaxCap, 1, 9, fewPassed())
	for _, change := range []func(a *impl.Archive){
		func(a *impl.Archive) { a.Store.Cap = impl.Used(a.Store) - 1 }, func(a *impl.Archive) { a.Store.Segs[0].Safe-- }, func(a *impl.Archive) { lastSeg(a).Safe = -1 }, func(a *impl.Archive) { lastSeg(a).Safe = len(lastSeg(a).Data) + 1 },
	} {
		b := archWith(a, change)
		checkReadOf(t, "what is no store", b.Store, 1, nil, impl.ArBad)
	}
}

// roomyArch is a with spare room behind its lists, and the whole of that memory.
func roomyArch(a impl.Archive) (impl.Archive, []impl.Seg, []impl.Line) {
	st, segs := roomyStore(a.Store)
	index, lines := roomyLines(a.Index)
	a.Store, a.Index = st, index
	return a, segs, lines
}

// archAnswers are all archives that the functions answer of a.
func archAnswers(a impl.Archive) map[string]impl.Archive {
	list := map[string]impl.Archive{"ArchSync": impl.ArchSync(a)}
	list["ArchAdd"], _ = impl.ArchAdd(a, passed(0, "GET", "http://0/", 0, 99, "one"))
	list["ArchAdd of none"], _ = impl.ArchAdd(a, impl.Exch{})
	list["Recover"], _ = impl.Recover(a.Store, a.Rotate, a.Every)
	list["Import"], _ = impl.Import(a, impl.Export(mustModel(a)))
	return list
}

// mustModel is some archive with exchanges, of a's set-up where there is one.
func mustModel(a impl.Archive) impl.Archive {
	b, _ := impl.ArchOf(impl.MaxCap, max(1, min(a.Rotate, impl.MaxCap)), 9, fewPassed())
	return b
}

// askAll asks for all that is told of a, other than archives.
func askAll(a impl.Archive) {
	impl.ArchOk(a)
	impl.Exchanges(a)
	impl.Rebuild(a.Store)
	impl.Export(a)
	impl.Find(a, "one")
	impl.RecAt(a, 0)
	impl.Resolve(a, 1)
}

// severalArchs are archives of all kinds, and what is none.
func severalArchs(t *testing.T) []impl.Archive {
	empty, _ := impl.ArchNew(impl.MaxCap, 1, 2)
	list := []impl.Archive{empty, {}}
	for _, s := range setUps() {
		list = append(list, mustArch(t, impl.MaxCap, s[0], s[1], fewPassed()))
	}
	return append(list, archChanges(list[5])...)
}

func TestArchivesHandedInStay(t *testing.T) {
	t.Parallel()
	for _, a := range severalArchs(t) {
		given, segs, lines := roomyArch(a)
		segsBefore, linesBefore := slices.Clone(segs), slices.Clone(lines)
		archAnswers(given)
		askAll(given)
		if !slices.Equal(segs, segsBefore) || !slices.Equal(lines, linesBefore) {
			t.Errorf("%s, with the room behind its lists, became %s", archShown(a), archShown(given))
		}
	}
	memory := append(manyPassed(), impl.Exch{}, impl.Exch{Url: "behind"})
	before := slices.Clone(memory)
	for n := range len(memory) {
		impl.ArchOf(impl.MaxCap, 1, 2, memory[:n])
	}
	if !slices.Equal(memory, before) {
		t.Errorf("%s became %s", exchsShown(before), exchsShown(memory))
	}
}

func overwriteArch(a impl.Archive) {
	for i := range a.Store.Segs[:cap(a.Store.Segs)] {
		a.Store.Segs[:cap(a.Store.Segs)][i] = impl.Seg{Data: "written", Safe: -9}
	}
	for i := range a.Index[:cap(a.Index)] {
		a.Index[:cap(a.Index)][i] = impl.Line{Key: "written"}
	}
}

func TestArchivesAnsweredAreNewMemory(t *testing.T) {
	t.Parallel()
	for _, a := range severalArchs(t) {
		given, segs, lines := roomyArch(copied(a))
		segsBefore, linesBefore := slices.Clone(segs), slices.Clone(lines)
		want := archAnswers(a)
		for name, got := range archAnswers(given) {
			overwriteArch(got)
			if !slices.Equal(segs, segsBefore) || !slices.Equal(lines, linesBefore) {
				t.Fatalf("writing into what %s answers changes the argument to %s", name, archShown(given))
			}
		}
		answers := archAnswers(given)
		overwriteArch(given)
		for name, got := range answers {
			checkArch(t, name+", the argument being written into,", got, 0, want[name], 0)
		}
	}
}

func TestArchivesOfOneListAreNewMemory(t *testing.T) {
	t.Parallel()
	l := manyPassed()
	for _, s := range setUps() {
		first, want := mustArch(t, impl.MaxCap, s[0], s[1], l), mustArch(t, impl.MaxCap, s[0], s[1], l)
		overwriteArch(mustArch(t, impl.MaxCap, s[0], s[1], l))
		checkArch(t, "another one being written into, it", first, 0, want, 0)
		// One archive goes on in two ways.
		one, _ := impl.ArchAdd(first, passed(0, "GET", "http://a/", 0, 20, "left"))
		two, _ := impl.ArchAdd(first, passed(0, "GET", "http://z/", 0, 20, "right"))
		checkExchs(t, "the first", impl.Exchanges(one), append(slices.Clone(l), passed(0, "GET", "http://a/", 0, 20, "left")))
		checkExchs(t, "the second", impl.Exchanges(two), append(slices.Clone(l), passed(0, "GET", "http://z/", 0, 20, "right")))
		checkKept(t, first, l)
	}
}

func TestListsOfExchangesAreNewMemory(t *testing.T) {
	l := manyPassed()
	a := mustArch(t, impl.MaxCap, 3000, 3, l)
	text := impl.Export(a)
	ask := map[string]func() []impl.Exch{
		"Exchanges":  func() []impl.Exch { return impl.Exchanges(a) },
		"Rebuild":    func() []impl.Exch { list, _ := impl.Rebuild(a.Store); return list },
		"ReadExport": func() []impl.Exch { list, _ := impl.ReadExport(text); return list },
	}
	for name, f := range ask {
		first, other := f(), f()
		for i := range other[:cap(other)] {
			other[:cap(other)][i] = impl.Exch{Url: "written"}
		}
		checkExchs(t, "another answer being written into, those of "+name, first, l)
		checkExchs(t, "asked again, those of "+name, f(), l)
	}
	_, lines := impl.Rebuild(a.Store)
	_, other := impl.Rebuild(a.Store)
	for i := range other[:cap(other)] {
		other[:cap(other)][i] = impl.Line{Key: "written"}
	}
	checkLines(t, "another answer being written into, the lines", lines, true, a.Index, true)
	checkKept(t, a, l)
}
