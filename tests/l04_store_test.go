package tests

import (
	"fmt"
	"math"
	"slices"
	"strings"
	"testing"

	"loop.example/g00651/impl"
)

func sameStore(a, b impl.Store) bool {
	return a.Cap == b.Cap && slices.Equal(a.Segs, b.Segs)
}

func zeroStore(st impl.Store) bool {
	return len(st.Segs) == 0 && st.Cap == 0
}

// synced is a segment of which all is synced.
func synced(data string) impl.Seg {
	return impl.Seg{Data: data, Safe: len(data)}
}

// storeOf has these segments ahead of the last, which has the two texts one behind the other, the first of them synced.
func storeOf(room int, ahead []string, safe, loose string) impl.Store {
	st := impl.Store{Cap: room}
	for _, data := range ahead {
		st.Segs = append(st.Segs, synced(data))
	}
	st.Segs = append(st.Segs, impl.Seg{Data: safe + loose, Safe: len(safe)})
	return st
}

// rowOf is a store of that many segments of one byte each, all synced.
func rowOf(room, segs int) impl.Store {
	st := impl.Store{Cap: room}
	for i := range segs {
		st.Segs = append(st.Segs, synced(string([]byte{byte('A' + i)})))
	}
	return st
}

func newStore(t *testing.T, room int) impl.Store {
	t.Helper()
	st, ok := impl.StoreNew(room)
	if !ok {
		t.Fatalf("no store of room %d", room)
	}
	return st
}

// told is a store as a message tells it: its bytes may be of any values, and many.
func told(st impl.Store) string {
	var b strings.Builder
	fmt.Fprintf(&b, "Cap %d", st.Cap)
	for _, s := range st.Segs {
		fmt.Fprintf(&b, " %.12q of %d bytes, %d safe;", s.Data, len(s.Data), s.Safe)
	}
	return b.String()
}

func checkStore(t *testing.T, what string, got, want impl.Store) {
	t.Helper()
	if !sameStore(got, want) {
		t.Errorf("%s is %s, not %s", what, told(got), told(want))
	}
}

func checkCoded(t *testing.T, what string, got impl.Store, code int, want impl.Store, wantCode int) {
	t.Helper()
	if code != wantCode {
		t.Errorf("%s has the code %d, not %d", what, code, wantCode)
	}
	checkStore(t, what, got, want)
}

func TestConstantsOfTheStore(t *testing.T) {
	if impl.MaxCap != 60000 || impl.MaxSegs != 40 {
		t.Error("a limit is not the document's")
	}
	if impl.StOk != 0 || impl.StBad != 1 || impl.StFull != 2 || impl.StNot != 3 {
		t.Error("a code is not the document's")
	}
}

func TestStoreNew(t *testing.T) {
	for _, room := range []int{0, 1, 2, 100, impl.MaxCap - 1, impl.MaxCap} {
		st, ok := impl.StoreNew(room)
		if !ok || !sameStore(st, impl.Store{Segs: []impl.Seg{{}}, Cap: room}) || !impl.StoreOk(st) {
			t.Errorf("StoreNew(%d) is %s %v", room, told(st), ok)
		}
		if impl.Used(st) != 0 || impl.Loose(st) != 0 || impl.AllBytes(st) != "" {
			t.Errorf("a new store of room %d is not empty", room)
		}
	}
	for _, room := range []int{-1, -2, impl.MaxCap + 1, impl.MaxCap + 2, 1 << 32, math.MinInt, math.MaxInt} {
		if st, ok := impl.StoreNew(room); ok || !zeroStore(st) {
			t.Errorf("StoreNew(%d) is %s %v", room, told(st), ok)
		}
	}
	one, two := newStore(t, 9), newStore(t, 9)
	one.Segs[0].Data = "x"
	if two.Segs[0].Data != "" || newStore(t, 9).Segs[0].Data != "" {
		t.Error("two new stores share their segments")
	}
}

// rightStores are StoreOk: one segment and several, little and much of the last synced, the limits met.
func rightStores() []impl.Store {
	full := strings.Repeat("f", impl.MaxCap)
	list := []impl.Store{
		storeOf(0, nil, "", ""), storeOf(1, nil, "", ""), storeOf(impl.MaxCap, nil, "", ""),
		storeOf(3, nil, "", "abc"), storeOf(3, nil, "a", "bc"), storeOf(3, nil, "abc", ""), storeOf(9, nil, "ab", "c"),
		storeOf(impl.MaxCap, nil, full, ""), storeOf(impl.MaxCap, nil, "", full), storeOf(impl.MaxCap, nil, full[:1], full[1:]),
		storeOf(5, []string{"abc"}, "", ""), storeOf(5, []string{"abc"}, "d", "e"), storeOf(5, []string{"abc"}, "", "de"), storeOf(5, []string{"abc"}, "de", ""),
		storeOf(20, []string{"a", "bc", "def"}, "", "ghij"), storeOf(20, []string{"a", "bc", "def"}, "gh", "ij"), storeOf(10, []string{"a", "bc", "def"}, "ghij", ""),
		storeOf(impl.MaxCap, []string{full[:1], full[:29999]}, full[:7], full[:29993]),
		storeOf(6, []string{"\x00", "\xff\x80"}, "\r\n", "\x00"), storeOf(600, []string{everyByte()}, everyByte()[:9], everyByte()),
	}
	for _, segs := range []int{1, 2, impl.MaxSegs - 1, impl.MaxSegs} {
		list = append(list, rowOf(segs, segs), rowOf(impl.MaxCap, segs))
		loose := rowOf(2*segs+3, segs)
		loose.Segs[segs-1] = impl.Seg{Data: "xyz", Safe: 1}
		empty := rowOf(segs, segs)
		empty.Segs[segs-1] = impl.Seg{}
		list = append(list, loose, empty)
	}
	return list
}

// wrongStores are not StoreOk, each for one reason.
func wrongStores() []impl.Store {
	list := []impl.Store{{}, {Cap: 9}, {Segs: []impl.Seg{}, Cap: impl.MaxCap}}
	for _, room := range []int{-1, -9, impl.MaxCap + 1, 1 << 32, 1<<32 + 9, math.MinInt, math.MaxInt} {
		list = append(list, storeOf(room, nil, "", ""), storeOf(room, []string{"abc"}, "d", "e"))
	}
	for _, safe := range []int{-1, -3, 4, 5, 1 << 32, math.MinInt, math.MaxInt} {
		bad := impl.Seg{Data: "abc", Safe: safe}
		list = append(list, impl.Store{Segs: []impl.Seg{bad}, Cap: 9}, impl.Store{Segs: []impl.Seg{bad, synced("d")}, Cap: 9})
		list = append(list, impl.Store{Segs: []impl.Seg{synced("d"), bad}, Cap: 9}, impl.Store{Segs: []impl.Seg{synced("d"), bad, synced("e")}, Cap: 9})
	}
	for _, safe := range []int{-1, 1} {
		list = append(list, impl.Store{Segs: []impl.Seg{{Safe: safe}}, Cap: 9}, impl.Store{Segs: []impl.Seg{synced("a"), {Safe: safe}}, Cap: 9})
	}
	for _, ahead := range []impl.Seg{{}, {Data: "abc"}, {Data: "abc", Safe: 2}, {Data: "a"}} {
		list = append(list, impl.Store{Segs: []impl.Seg{ahead, {}}, Cap: 9}, impl.Store{Segs: []impl.Seg{ahead, synced("d")}, Cap: 9})
		list = append(list, impl.Store{Segs: []impl.Seg{synced("d"), ahead, synced("e")}, Cap: 9}, impl.Store{Segs: []impl.Seg{ahead, synced("d"), {Data: "e"}}, Cap: 9})
	}
	full := strings.Repeat("f", impl.MaxCap+1)
	list = append(list,
		storeOf(0, nil, "a", ""), storeOf(0, nil, "", "a"), storeOf(2, nil, "abc", ""), storeOf(2, nil, "a", "bc"), storeOf(2, []string{"abc"}, "", ""),
		storeOf(4, []string{"abc"}, "d", "e"), storeOf(9, []string{"a", "bc", "def"}, "gh", "ij"), storeOf(impl.MaxCap, nil, full, ""),
		storeOf(impl.MaxCap, nil, "", full), storeOf(impl.MaxCap, []string{full[:1]}, "", full[1:]), storeOf(impl.MaxCap, []string{full[:60000]}, "x", ""))
	return append(list, rowOf(impl.MaxSegs-1, impl.MaxSegs), rowOf(100, impl.MaxSegs+1), rowOf(100, impl.MaxSegs+2), rowOf(impl.MaxCap, 100))
}

func TestStoreOk(t *testing.T) {
	for _, st := range rightStores() {
		if !impl.StoreOk(st) {
			t.Errorf("%s is not StoreOk", told(st))
		}
	}
	for _, st := range wrongStores() {
		if impl.StoreOk(st) {
			t.Errorf("%s is StoreOk", told(st))
		}
	}
}

func TestWrongStoresAreRefused(t *testing.T) {
	for _, st := range wrongStores() {
		what := "with " + told(st) + " it"
		if impl.Used(st) != -1 || impl.Loose(st) != -1 || impl.AllBytes(st) != "" {
			t.Errorf("%s has %d bytes, %d not synced", told(st), impl.Used(st), impl.Loose(st))
		}
		checkStore(t, what, impl.Sync(st), impl.Store{})
		for _, n := range []int{-1, 0, 1, 2, 3, 4, 5, impl.MaxCap, math.MinInt, math.MaxInt} {
			got, code := impl.Cut(st, n)
			checkCoded(t, what, got, code, impl.Store{}, impl.StBad)
			checkStore(t, what, impl.Crash(st, n), impl.Store{})
			for _, at := range []int{-1, 0, 1, n} {
				if s, ok := impl.ReadAt(st, 0, at, n); ok || s != "" {
					t.Errorf("%s gives %.20q", told(st), s)
				}
			}
		}
		for _, b := range []string{"", "x", strings.Repeat("x", impl.MaxCap+1)} {
			got, code := impl.Append(st, b)
			checkCoded(t, what, got, code, impl.Store{}, impl.StBad)
		}
		got, code := impl.Roll(st)
		checkCoded(t, what, got, code, impl.Store{}, impl.StBad)
	}
}

func TestWhatIsUsed(t *testing.T) {
	for _, c := range []struct {
		st          impl.Store
		used, loose int
		all         string
	}{
		{storeOf(9, nil, "", ""), 0, 0, ""},
		{storeOf(9, nil, "", "abc"), 3, 3, "abc"},
		{storeOf(9, nil, "ab", "c"), 3, 1, "abc"},
		{storeOf(9, nil, "abc", ""), 3, 0, "abc"},
		{storeOf(9, []string{"abc"}, "", ""), 3, 0, "abc"},
		{storeOf(9, []string{"abc"}, "", "d"), 4, 1, "abcd"},
		{storeOf(9, []string{"abc", "d"}, "e", "fgh"), 8, 3, "abcdefgh"},
		{storeOf(9, []string{"cba", "d", "a"}, "efgh", ""), 9, 0, "cbadaefgh"},
		{storeOf(9, []string{"\xff\x00"}, "\r", "\n"), 4, 1, "\xff\x00\r\n"},
	} {
		if used, loose, all := impl.Used(c.st), impl.Loose(c.st), impl.AllBytes(c.st); used != c.used || loose != c.loose || all != c.all {
			t.Errorf("%s: %d used, %d not synced, %q", told(c.st), used, loose, all)
		}
	}
	full := mixedBytes(impl.MaxCap, 4)
	st := storeOf(impl.MaxCap, []string{full[:1], full[1:20000]}, full[20000:20005], full[20005:])
	if impl.Used(st) != impl.MaxCap || impl.Loose(st) != impl.MaxCap-20005 || impl.AllBytes(st) != full {
		t.Error("a full store has other bytes")
	}
	row := rowOf(impl.MaxSegs, impl.MaxSegs)
	if impl.Used(row) != impl.MaxSegs || impl.AllBytes(row) != "ABCDEFGHIJKLMNOPQRSTUVWXYZ[\\]^_`abcdefgh" {
		t.Errorf("a row of MaxSegs segments has the bytes %q", impl.AllBytes(row))
	}
}

func TestAppendPutsBehind(t *testing.T) {
	for _, c := range []struct {
		st   impl.Store
		b    string
		want impl.Store
	}{
		{storeOf(9, nil, "", ""), "abc", storeOf(9, nil, "", "abc")},
		{storeOf(9, nil, "", ""), "", storeOf(9, nil, "", "")},
		{storeOf(9, nil, "", "ab"), "c", storeOf(9, nil, "", "abc")},
		{storeOf(9, nil, "ab", ""), "c", storeOf(9, nil, "ab", "c")},
		{storeOf(9, nil, "a", "b"), "cd", storeOf(9, nil, "a", "bcd")},
		{storeOf(9, nil, "a", "b"), "", storeOf(9, nil, "a", "b")},
		{storeOf(9, []string{"abc"}, "", ""), "d", storeOf(9, []string{"abc"}, "", "d")},
		{storeOf(9, []string{"abc"}, "d", "e"), "fgh", storeOf(9, []string{"abc"}, "d", "efgh")},
		{storeOf(9, []string{"abc", "d"}, "", ""), "\x00\xff\r\n", storeOf(9, []string{"abc", "d"}, "", "\x00\xff\r\n")},
	} {
		got, code := impl.Append(c.st, c.b)
		checkCoded(t, fmt.Sprintf("Append(%s, %q)", told(c.st), c.b), got, code, c.want, impl.StOk)
	}
}

func TestAppendAsLongAsThereIsRoom(t *testing.T) {
	for _, room := range []int{0, 1, 2, 7, 300, impl.MaxCap - 1, impl.MaxCap} {
		all := strings.Repeat("r", room+1)
		for _, held := range []int{0, 1, room / 2, room - 1, room} {
			if held < 0 || held > room {
				continue
			}
			st, code := impl.Append(newStore(t, room), all[:held])
			checkCoded(t, "what is held", st, code, storeOf(room, nil, "", all[:held]), impl.StOk)
			got, code := impl.Append(st, all[held:room])
			checkCoded(t, "Cap met", got, code, storeOf(room, nil, "", all[:room]), impl.StOk)
			got, code = impl.Append(st, all[held:])
			checkCoded(t, "Cap passed by one", got, code, impl.Store{}, impl.StFull)
			got, code = impl.Append(st, strings.Repeat("m", room+impl.MaxCap+5))
			checkCoded(t, "Cap passed by much", got, code, impl.Store{}, impl.StFull)
			got, code = impl.Append(st, "")
			checkCoded(t, "nothing put behind", got, code, st, impl.StOk)
		}
	}
}

func TestRoomIsThatOfAllSegments(t *testing.T) {
	st := storeOf(8, []string{"ab", "c"}, "d", "e")
	got, code := impl.Append(st, "fgh")
	checkCoded(t, "Cap met", got, code, storeOf(8, []string{"ab", "c"}, "d", "efgh"), impl.StOk)
	again, code := impl.Append(got, "i")
	checkCoded(t, "one behind it", again, code, impl.Store{}, impl.StFull)
	again, code = impl.Append(st, "fghi")
	checkCoded(t, "Cap passed by one", again, code, impl.Store{}, impl.StFull)
	rolled, code := impl.Roll(got)
	checkCoded(t, "a segment behind a full store", rolled, code, storeOf(8, []string{"ab", "c", "defgh"}, "", ""), impl.StOk)
	again, code = impl.Append(rolled, "i")
	checkCoded(t, "one byte in that one", again, code, impl.Store{}, impl.StFull)
	again, code = impl.Append(rolled, "")
	checkCoded(t, "no byte in that one", again, code, rolled, impl.StOk)
}

func TestSync(t *testing.T) {
	for _, st := range rightStores() {
		last := len(st.Segs) - 1
		want := impl.Store{Segs: append(slices.Clone(st.Segs[:last]), synced(st.Segs[last].Data)), Cap: st.Cap}
		got := impl.Sync(st)
		checkStore(t, "Sync", got, want)
		checkStore(t, "Sync again", impl.Sync(got), want)
		if impl.Loose(got) != 0 || impl.Used(got) != impl.Used(st) || impl.AllBytes(got) != impl.AllBytes(st) {
			t.Errorf("Sync of %s has %d bytes not synced", told(st), impl.Loose(got))
		}
	}
}

func TestRoll(t *testing.T) {
	for _, c := range []struct {
		st, want impl.Store
		code     int
	}{
		{storeOf(9, nil, "", ""), impl.Store{}, impl.StNot},
		{storeOf(0, nil, "", ""), impl.Store{}, impl.StNot},
		{storeOf(9, []string{"abc"}, "", ""), impl.Store{}, impl.StNot},
		{storeOf(9, nil, "abc", ""), storeOf(9, []string{"abc"}, "", ""), impl.StOk},
		{storeOf(9, nil, "", "abc"), storeOf(9, []string{"abc"}, "", ""), impl.StOk},
		{storeOf(3, nil, "a", "bc"), storeOf(3, []string{"abc"}, "", ""), impl.StOk},
		{storeOf(9, []string{"abc", "d"}, "", "e"), storeOf(9, []string{"abc", "d", "e"}, "", ""), impl.StOk},
		{storeOf(9, []string{"abc", "d"}, "e", "f"), storeOf(9, []string{"abc", "d", "ef"}, "", ""), impl.StOk},
	} {
		got, code := impl.Roll(c.st)
		checkCoded(t, "Roll of "+told(c.st), got, code, c.want, c.code)
	}
}

func TestRollUpToMaxSegs(t *testing.T) {
	st := newStore(t, 100)
	for segs := 1; segs < impl.MaxSegs; segs++ {
		st, _ = impl.Append(st, "x")
		got, code := impl.Roll(st)
		if code != impl.StOk || len(got.Segs) != segs+1 || !impl.StoreOk(got) {
			t.Fatalf("behind %d segments: code %d, %s", segs, code, told(got))
		}
		st = got
	}
	got, code := impl.Roll(st)
	checkCoded(t, "with MaxSegs segments, the last of them empty, Roll", got, code, impl.Store{}, impl.StNot)
	for _, full := range []impl.Store{rowOf(impl.MaxSegs, impl.MaxSegs), rowOf(impl.MaxCap, impl.MaxSegs), impl.Sync(mustAppend(t, st, "y")), mustAppend(t, st, "y")} {
		got, code = impl.Roll(full)
		checkCoded(t, "with MaxSegs segments Roll", got, code, impl.Store{}, impl.StFull)
	}
	back, code := impl.Cut(st, 0)
	if code != impl.StOk || len(back.Segs) != impl.MaxSegs-1 {
		t.Fatalf("cut to %d segments, code %d", len(back.Segs), code)
	}
	got, code = impl.Roll(back)
	checkCoded(t, "Roll behind a Cut", got, code, st, impl.StOk)
}

func mustAppend(t *testing.T, st impl.Store, b string) impl.Store {
	t.Helper()
	got, code := impl.Append(st, b)
	if code != impl.StOk {
		t.Fatalf("%q can't be put behind %s", b, told(st))
	}
	return got
}

func TestCut(t *testing.T) {
	one := storeOf(9, nil, "ab", "cd")
	several := storeOf(9, []string{"xyz", "w"}, "ab", "cd")
	for _, c := range []struct {
		st   impl.Store
		n    int
		want impl.Store
		code int
	}{
		{one, 0, storeOf(9, nil, "", ""), impl.StOk},
		{one, 1, storeOf(9, nil, "a", ""), impl.StOk},
		{one, 2, storeOf(9, nil, "ab", ""), impl.StOk},
		{one, 3, storeOf(9, nil, "abc", ""), impl.StOk},
		{one, 4, storeOf(9, nil, "abcd", ""), impl.StOk},
		{one, 5, impl.Store{}, impl.StNot},
		{one, -1, impl.Store{}, impl.StNot},
		{one, math.MaxInt, impl.Store{}, impl.StNot},
		{one, math.MinInt, impl.Store{}, impl.StNot},
		{several, 0, storeOf(9, []string{"xyz"}, "w", ""), impl.StOk},
		{several, 1, storeOf(9, []string{"xyz", "w"}, "a", ""), impl.StOk},
		{several, 3, storeOf(9, []string{"xyz", "w"}, "abc", ""), impl.StOk},
		{several, 4, storeOf(9, []string{"xyz", "w"}, "abcd", ""), impl.StOk},
		{several, 5, impl.Store{}, impl.StNot},
		{several, 8, impl.Store{}, impl.StNot},
		{several, -1, impl.Store{}, impl.StNot},
		{storeOf(9, nil, "", ""), 0, storeOf(9, nil, "", ""), impl.StOk},
		{storeOf(0, nil, "", ""), 0, storeOf(0, nil, "", ""), impl.StOk},
		{storeOf(9, nil, "", ""), 1, impl.Store{}, impl.StNot},
		{storeOf(9, []string{"xyz"}, "", ""), 0, storeOf(9, nil, "xyz", ""), impl.StOk},
		{storeOf(9, []string{"xyz"}, "", ""), 1, impl.Store{}, impl.StNot},
		{storeOf(9, []string{"xyz"}, "", ""), -1, impl.Store{}, impl.StNot},
		{storeOf(9, []string{"xyz"}, "", "a"), 0, storeOf(9, nil, "xyz", ""), impl.StOk},
	} {
		got, code := impl.Cut(c.st, c.n)
		checkCoded(t, fmt.Sprintf("Cut(%s, %d)", told(c.st), c.n), got, code, c.want, c.code)
	}
}

func TestCutOneSegmentAfterTheOther(t *testing.T) {
	st := rowOf(impl.MaxSegs, impl.MaxSegs)
	for segs := impl.MaxSegs - 1; segs > 0; segs-- {
		got, code := impl.Cut(st, 0)
		checkCoded(t, "Cut", got, code, rowOf(impl.MaxSegs, segs), impl.StOk)
		st = got
	}
	got, code := impl.Cut(st, 0)
	checkCoded(t, "Cut of the only one", got, code, newStore(t, impl.MaxSegs), impl.StOk)
}

func TestCrash(t *testing.T) {
	one := storeOf(9, nil, "ab", "cde")
	several := storeOf(9, []string{"xyz", "w"}, "ab", "cde")
	for _, c := range []struct {
		keep int
		left string
	}{
		{-1, "ab"}, {-5, "ab"}, {math.MinInt, "ab"}, {0, "ab"}, {1, "abc"}, {2, "abcd"}, {3, "abcde"}, {4, "abcde"}, {5, "abcde"}, {9, "abcde"},
		{math.MaxInt - 1, "abcde"}, {math.MaxInt, "abcde"},
	} {
		what := fmt.Sprintf("Crash with %d", c.keep)
		checkStore(t, what, impl.Crash(one, c.keep), storeOf(9, nil, c.left, ""))
		checkStore(t, what, impl.Crash(several, c.keep), storeOf(9, []string{"xyz", "w"}, c.left, ""))
	}
}

func TestCrashAtTheEdgesOfSafe(t *testing.T) {
	for _, keep := range []int{math.MinInt, -1, 0, 1, 2, 3, math.MaxInt} {
		for _, ahead := range [][]string{nil, {"xyz"}, {"xyz", "w"}} {
			loose, whole, empty := storeOf(9, ahead, "", "ab"), storeOf(9, ahead, "ab", ""), storeOf(9, ahead, "", "")
			kept := "ab"[:max(0, min(keep, 2))]
			checkStore(t, "a crash with nothing synced", impl.Crash(loose, keep), storeOf(9, ahead, kept, ""))
			checkStore(t, "a crash with all synced", impl.Crash(whole, keep), whole)
			// An empty last segment stays: Cut alone takes one away.
			checkStore(t, "a crash with an empty segment", impl.Crash(empty, keep), empty)
		}
	}
}

// Promise 4, its second half: at every store, whatever the crash keeps.
func TestBehindACrash(t *testing.T) {
	for _, st := range rightStores() {
		all, loose := impl.AllBytes(st), impl.Loose(st)
		safe := len(all) - loose
		for _, keep := range []int{math.MinInt, -1, 0, 1, 2, loose - 1, loose, loose + 1, impl.MaxCap, math.MaxInt} {
			got := impl.Crash(st, keep)
			want := all[:safe+max(0, min(keep, loose))]
			if !impl.StoreOk(got) || impl.AllBytes(got) != want || impl.Loose(got) != 0 || got.Cap != st.Cap || len(got.Segs) != len(st.Segs) {
				t.Errorf("Crash(%s, %d) is %s", told(st), keep, told(got))
			}
			checkStore(t, "a second crash", impl.Crash(got, 0), got)
			checkStore(t, "a crash behind Sync", impl.Crash(impl.Sync(st), keep), impl.Sync(st))
		}
	}
}

func TestReadAt(t *testing.T) {
	st := storeOf(20, []string{"abc", "d"}, "ef", "ghi")
	for _, c := range []struct {
		seg, at, n int
		want       string
		ok         bool
	}{
		{0, 0, 3, "abc", true}, {0, 0, 1, "a", true}, {0, 1, 1, "b", true}, {0, 1, 2, "bc", true}, {0, 2, 1, "c", true},
		{0, 0, 0, "", true}, {0, 2, 0, "", true}, {0, 3, 0, "", true}, {0, 4, 0, "", false}, {0, 3, 1, "", false}, {0, 2, 2, "", false}, {0, 0, 4, "", false}, {0, 1, 3, "", false},
		{1, 0, 1, "d", true}, {1, 1, 0, "", true}, {1, 1, 1, "", false}, {1, 0, 2, "", false},
		{2, 0, 5, "efghi", true}, {2, 1, 3, "fgh", true}, {2, 4, 1, "i", true}, {2, 5, 0, "", true}, {2, 5, 1, "", false}, {2, 6, 0, "", false}, {2, 0, 6, "", false},
		{-1, 0, 0, "", false}, {-1, 0, 1, "", false}, {3, 0, 0, "", false}, {3, 0, 1, "", false}, {math.MinInt, 0, 0, "", false}, {math.MaxInt, 0, 0, "", false},
		{0, -1, 0, "", false}, {0, -1, 1, "", false}, {0, -1, 2, "", false}, {2, math.MinInt, 1, "", false}, {0, 0, -1, "", false}, {0, 1, -1, "", false}, {0, 3, -3, "", false}, {0, -1, -1, "", false},
		{0, math.MaxInt, 0, "", false}, {0, math.MaxInt, 1, "", false}, {0, 1, math.MaxInt, "", false}, {0, math.MaxInt, math.MaxInt, "", false}, {0, 0, math.MaxInt, "", false},
		{0, 0, math.MinInt, "", false}, {0, math.MinInt, math.MinInt, "", false}, {0, math.MaxInt, math.MinInt, "", false},
	} {
		if got, ok := impl.ReadAt(st, c.seg, c.at, c.n); got != c.want || ok != c.ok {
			t.Errorf("ReadAt %d %d %d is %q %v", c.seg, c.at, c.n, got, ok)
		}
	}
	empty := newStore(t, 9)
	if got, ok := impl.ReadAt(empty, 0, 0, 0); !ok || got != "" {
		t.Errorf("no byte of an empty segment is %q %v", got, ok)
	}
	for _, wrong := range [][3]int{{0, 0, 1}, {0, 1, 0}, {1, 0, 0}, {-1, 0, 0}} {
		if got, ok := impl.ReadAt(empty, wrong[0], wrong[1], wrong[2]); ok || got != "" {
			t.Errorf("%v of an empty segment is %q %v", wrong, got, ok)
		}
	}
}

// diskModel is a store told in another way: all bytes, where segments begin, and how many are synced.
type diskModel struct {
	all    string
	begins []int
	safe   int
	room   int
}

func newDisk(room int) diskModel {
	return diskModel{begins: []int{0}, room: room}
}

func (d diskModel) lastBegin() int {
	return d.begins[len(d.begins)-1]
}

func (d diskModel) store() impl.Store {
	st := impl.Store{Cap: d.room}
	for i, from := range d.begins {
		to := len(d.all)
		if i+1 < len(d.begins) {
			to = d.begins[i+1]
		}
		st.Segs = append(st.Segs, impl.Seg{Data: d.all[from:to], Safe: min(to, d.safe) - from})
	}
	return st
}

func (d diskModel) appended(b string) (diskModel, int) {
	if len(d.all)+len(b) > d.room {
		return d, impl.StFull
	}
	d.all += b
	return d, impl.StOk
}

func (d diskModel) rolled() (diskModel, int) {
	if d.lastBegin() == len(d.all) {
		return d, impl.StNot
	}
	if len(d.begins) == impl.MaxSegs {
		return d, impl.StFull
	}
	d.begins = append(slices.Clone(d.begins), len(d.all))
	d.safe = len(d.all)
	return d, impl.StOk
}

func (d diskModel) cut(n int) (diskModel, int) {
	if n < 0 || n > len(d.all)-d.lastBegin() {
		return d, impl.StNot
	}
	d.all = d.all[:d.lastBegin()+n]
	d.safe = len(d.all)
	if n == 0 && len(d.begins) > 1 {
		d.begins = d.begins[:len(d.begins)-1]
	}
	return d, impl.StOk
}

func (d diskModel) crashed(keep int) diskModel {
	loose := d.all[d.safe:]
	d.all = d.all[:d.safe]
	for i := 0; i < keep && i < len(loose); i++ {
		d.all += loose[i : i+1]
	}
	d.safe = len(d.all)
	return d
}

// checkDisk holds a store against the model, all that can be asked of it.
func checkDisk(t *testing.T, what string, st impl.Store, d diskModel) {
	t.Helper()
	if !sameStore(st, d.store()) || !impl.StoreOk(st) {
		t.Fatalf("%s: there is %s, not %s", what, told(st), told(d.store()))
	}
	if impl.Used(st) != len(d.all) || impl.Loose(st) != len(d.all)-d.safe || impl.AllBytes(st) != d.all {
		t.Fatalf("%s: %s has %d bytes, %d not synced", what, told(st), impl.Used(st), impl.Loose(st))
	}
	for i, s := range d.store().Segs {
		if got, ok := impl.ReadAt(st, i, 0, len(s.Data)); !ok || got != s.Data {
			t.Fatalf("%s: segment %d is read as %.20q %v", what, i, got, ok)
		}
	}
}

// checkStep does one thing to both; a refusal leaves them as they were.
func checkStep(t *testing.T, st impl.Store, d diskModel, kind, size int, b string) (impl.Store, diskModel) {
	t.Helper()
	got, next := st, d
	code, want := impl.StOk, impl.StOk
	switch kind {
	case 0:
		got, code = impl.Append(st, b)
		next, want = d.appended(b)
	case 1:
		got = impl.Sync(st)
		next.safe = len(next.all)
	case 2:
		got, code = impl.Roll(st)
		next, want = d.rolled()
	case 3:
		got, code = impl.Cut(st, size)
		next, want = d.cut(size)
	case 4:
		got = impl.Crash(st, size)
		next = d.crashed(size)
	}
	what := fmt.Sprintf("step %d with %d and %.20q", kind, size, b)
	if code != want || code != impl.StOk && !zeroStore(got) {
		t.Fatalf("%s of %s has the code %d, not %d, and %s", what, told(st), code, want, told(got))
	}
	checkDisk(t, what, st, d)
	if code != impl.StOk {
		return st, d
	}
	checkDisk(t, what, got, next)
	return got, next
}

// Every row of a few steps, in a store so small that each limit but MaxSegs is met.
func TestEveryRowOfSteps(t *testing.T) {
	type step struct {
		kind, size int
		b          string
	}
	steps := []step{{0, 0, "a"}, {0, 0, "bcd"}, {1, 0, ""}, {2, 0, ""}, {3, 0, ""}, {3, 1, ""}, {3, 3, ""}, {4, -1, ""}, {4, 1, ""}, {4, 9, ""}}
	var walk func(st impl.Store, d diskModel, left int)
	walk = func(st impl.Store, d diskModel, left int) {
		if left == 0 {
			return
		}
		for _, s := range steps {
			next, model := checkStep(t, st, d, s.kind, s.size, s.b)
			walk(next, model, left-1)
		}
	}
	for _, room := range []int{0, 3, 5} {
		walk(newStore(t, room), newDisk(room), 4)
	}
}

func TestLongRowsOfSteps(t *testing.T) {
	for seed := range uint32(60) {
		turn := seed*2654435761 + 17
		number := func(below int) int {
			turn = turn*1664525 + 1013904223
			return int(turn>>8) % below
		}
		room := []int{10, 60, 500, impl.MaxCap}[seed%4]
		st, d := newStore(t, room), newDisk(room)
		// Some rows seldom shorten, so that they come to MaxSegs segments or to Cap.
		kinds := [][]int{{0, 0, 0, 1, 2, 2, 3, 4}, {0, 0, 2, 2, 2, 1}, {0, 1, 2, 3, 4}}[seed%3]
		for range 400 {
			kind := kinds[number(len(kinds))]
			b := mixedBytes(number(min(room, 40)+2), turn)
			if kind == 0 && number(8) == 0 {
				b = mixedBytes(room-len(d.all)+number(2), turn)
			}
			st, d = checkStep(t, st, d, kind, number(14)-2, b)
		}
	}
}

// Promise 4: what is synced outlives every crash, one behind the other, and more can be put behind.
func TestCrashAfterCrash(t *testing.T) {
	st := newStore(t, 100)
	st = mustAppend(t, st, "one")
	st = impl.Crash(st, 2)
	checkStore(t, "behind the first crash", st, storeOf(100, nil, "on", ""))
	st = impl.Crash(st, -1)
	checkStore(t, "behind the second", st, storeOf(100, nil, "on", ""))
	st = mustAppend(t, impl.Sync(mustAppend(t, st, "two")), "three")
	st = impl.Crash(st, 1)
	checkStore(t, "behind the third", st, storeOf(100, nil, "ontwot", ""))
	st, code := impl.Roll(st)
	checkCoded(t, "a new segment", st, code, storeOf(100, []string{"ontwot"}, "", ""), impl.StOk)
	st = mustAppend(t, mustAppend(t, st, "four"), "five")
	checkStore(t, "with nothing kept", impl.Crash(st, 0), storeOf(100, []string{"ontwot"}, "", ""))
	st = impl.Crash(st, 5)
	checkStore(t, "behind the fourth", st, storeOf(100, []string{"ontwot"}, "fourf", ""))
	st, code = impl.Cut(st, 0)
	checkCoded(t, "the segment taken away", st, code, storeOf(100, nil, "ontwot", ""), impl.StOk)
	checkStore(t, "more behind it", mustAppend(t, st, "!"), storeOf(100, nil, "ontwot", "!"))
}

// spare is what stands in the room behind a list that is handed in.
var spare = []impl.Seg{{Data: "behind", Safe: -7}, {Data: "it", Safe: -8}}

// roomyStore is st with spare room behind its segments, and the whole of that memory.
func roomyStore(st impl.Store) (impl.Store, []impl.Seg) {
	memory := append(slices.Clone(st.Segs), spare...)
	return impl.Store{Segs: memory[:len(st.Segs)], Cap: st.Cap}, memory
}

// storeAnswers are all stores that the functions answer of st.
func storeAnswers(st impl.Store) map[string]impl.Store {
	list := map[string]impl.Store{"Sync": impl.Sync(st)}
	for _, b := range []string{"", "q", "qqq"} {
		list["Append "+b], _ = impl.Append(st, b)
	}
	list["Roll"], _ = impl.Roll(st)
	for _, n := range []int{-1, 0, 1, 2, 3, 9} {
		list[fmt.Sprint("Cut ", n)], _ = impl.Cut(st, n)
		list[fmt.Sprint("Crash ", n)] = impl.Crash(st, n)
	}
	return list
}

func TestSegmentsHandedInStay(t *testing.T) {
	for _, st := range append(rightStores(), wrongStores()...) {
		given, memory := roomyStore(st)
		before := slices.Clone(memory)
		storeAnswers(given)
		impl.StoreOk(given)
		impl.Used(given)
		impl.Loose(given)
		impl.AllBytes(given)
		impl.ReadAt(given, 0, 0, 1)
		if !slices.Equal(memory, before) {
			t.Errorf("the segments, with the room behind them, became %s", told(impl.Store{Segs: memory}))
		}
	}
}

func TestStoresAnsweredAreNewMemory(t *testing.T) {
	for _, st := range rightStores() {
		given, memory := roomyStore(st)
		before := slices.Clone(memory)
		want, answers := storeAnswers(st), storeAnswers(given)
		for name, got := range answers {
			for i := range got.Segs {
				got.Segs[i] = impl.Seg{Data: "written", Safe: -9}
			}
			got.Segs = append(got.Segs, impl.Seg{Data: "written", Safe: -9})
			if !slices.Equal(memory, before) {
				t.Fatalf("writing into what %s answers changes the argument to %s", name, told(impl.Store{Segs: memory}))
			}
		}
		answers = storeAnswers(given)
		for i := range memory {
			memory[i] = impl.Seg{Data: "written", Safe: -9}
		}
		for name, got := range answers {
			checkStore(t, name+", the argument being written into,", got, want[name])
		}
	}
}

func TestOneStoreGoesOnInTwoWays(t *testing.T) {
	for _, st := range []impl.Store{storeOf(20, nil, "a", "b"), storeOf(20, []string{"xyz"}, "a", "b")} {
		ahead := []string{"xyz"}[:len(st.Segs)-1]
		left, right := mustAppend(t, st, "left"), mustAppend(t, st, "right")
		rolled, _ := impl.Roll(st)
		one, two := mustAppend(t, rolled, "one"), mustAppend(t, rolled, "two")
		cut, _ := impl.Cut(rolled, 0)
		again, _ := impl.Roll(cut)
		checkStore(t, "the first", left, storeOf(20, ahead, "a", "bleft"))
		checkStore(t, "the second", right, storeOf(20, ahead, "a", "bright"))
		checkStore(t, "the third", one, storeOf(20, append(slices.Clone(ahead), "ab"), "", "one"))
		checkStore(t, "the fourth", two, storeOf(20, append(slices.Clone(ahead), "ab"), "", "two"))
		checkStore(t, "the fifth", mustAppend(t, cut, "c"), storeOf(20, ahead, "ab", "c"))
		checkStore(t, "the sixth", again, rolled)
	}
}
