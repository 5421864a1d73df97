package tests

import (
	"fmt"
	"regexp"
	"slices"
	"sort"
	"strings"
	"testing"

	"loop.example/g00651/impl"
)

// The seven names that speak of this connection, in the document's order, which is sorted.
const sevenHops = "connection keep-alive proxy-connection te trailer transfer-encoding upgrade"

// fieldsOf makes a list out of names and values by turns.
func fieldsOf(parts ...string) []impl.Field {
	var l []impl.Field
	for i := 0; i+1 < len(parts); i += 2 {
		l = append(l, impl.Field{Name: parts[i], Value: parts[i+1]})
	}
	return l
}

// manyFields is a list of n fields, no two of one name.
func manyFields(n int) []impl.Field {
	var l []impl.Field
	for i := range n {
		l = append(l, impl.Field{Name: fmt.Sprintf("X-%d", i), Value: fmt.Sprint(i * i)})
	}
	return l
}

// smallName is a folded name, told by the library: names that are Tokens have no letters but those of ASCII.
func smallName(f impl.Field) string {
	return strings.ToLower(f.Name)
}

func checkFields(t *testing.T, what string, got, want []impl.Field) {
	t.Helper()
	if !slices.Equal(got, want) {
		t.Errorf("%s is %q, not %q", what, got, want)
	}
}

func checkTexts(t *testing.T, what string, got, want []string) {
	t.Helper()
	if !slices.Equal(got, want) {
		t.Errorf("%s is %q, not %q", what, got, want)
	}
}

// eachList calls f with every list of at most most fields out of kinds.
func eachList(kinds []impl.Field, most int, f func([]impl.Field)) {
	var grow func(l []impl.Field)
	grow = func(l []impl.Field) {
		f(slices.Clone(l))
		if len(l) == most {
			return
		}
		for _, kind := range kinds {
			grow(append(slices.Clone(l), kind))
		}
	}
	grow(nil)
}

// wrongFields are no fields, each for one reason alone.
func wrongFields() []impl.Field {
	list := fieldsOf(
		"", "b", "", "", " ", "b", "a b", "c", " a", "b", "a ", "b", "a\t", "b", "a:", "b", ":", "b", "a:b", "c", "a/b", "c", "(a)", "b",
		"a,b", "c", "a;b", "c", "a=b", "c", "\"a\"", "b", "a\\", "b", "a\r\n", "b", "a\x00", "b", "\xe4", "b", "\u212a", "b", "a\x7f", "b", "a@b", "c",
		"a", " b", "a", "b ", "a", "\tb", "a", "b\t", "a", " ", "a", "\t", "a", " b ", "a", "b \t", "a", "\t b",
		"a", "b\r\nc", "a", "b\n", "a", "\rb", "a", "b\x00c", "a", "b\x7fc", "a", "\x1f", "a", "b\x0bc",
	)
	return append(list,
		impl.Field{Name: strings.Repeat("n", impl.MaxName+1), Value: "v"},
		impl.Field{Name: strings.Repeat("n", impl.MaxText+1), Value: "v"},
		impl.Field{Name: "n", Value: strings.Repeat("v", impl.MaxValue+1)},
		impl.Field{Name: "n", Value: strings.Repeat("v", impl.MaxText+1)},
	)
}

// wrongLists are no lists of fields, each for one reason alone.
func wrongLists() [][]impl.Field {
	list := [][]impl.Field{manyFields(impl.MaxFields + 1), manyFields(impl.MaxFields + 5), {{}}}
	for _, f := range wrongFields() {
		list = append(list, []impl.Field{f},
			append(fieldsOf("a", "1", "Connection", "x"), f),
			append([]impl.Field{f}, fieldsOf("a", "1", "Connection", "x")...),
			append(manyFields(impl.MaxFields-1), f))
	}
	for at := range impl.MaxFields {
		l := manyFields(impl.MaxFields)
		l[at].Value += " "
		list = append(list, l)
	}
	return list
}

func TestConstantsOfFields(t *testing.T) {
	if impl.MaxFields != 20 || impl.MaxName != 40 || impl.MaxValue != 190 {
		t.Error("a limit is not the document's")
	}
}

func TestFieldOkEachByteOfAName(t *testing.T) {
	signs := "ABCDEFGHIJKLMNOPQRSTUVWXYZabcdefghijklmnopqrstuvwxyz0123456789!#$%&'*+-.^_|~`"
	for i := 0; i < 256; i++ {
		s := string([]byte{byte(i)})
		want := strings.Contains(signs, s)
		for _, name := range []string{s, "a" + s, s + "a", "a" + s + "a"} {
			if impl.FieldOk(impl.Field{Name: name, Value: "v"}) != want {
				t.Errorf("a field of the name %q is ok: %v", name, !want)
			}
		}
	}
}

func TestFieldOkEachByteOfAValue(t *testing.T) {
	for i := 0; i < 256; i++ {
		s := string([]byte{byte(i)})
		edge := plain(i) && i != ' ' && i != '\t'
		for value, want := range map[string]bool{s: edge, "a" + s: edge, s + "a": edge, "a" + s + "b": plain(i)} {
			if impl.FieldOk(impl.Field{Name: "n", Value: value}) != want {
				t.Errorf("a field of the value %q is ok: %v", value, !want)
			}
		}
	}
}

func TestFieldOkLengths(t *testing.T) {
	for _, c := range []struct {
		name, value int
		want        bool
	}{
		{0, 0, false}, {0, 1, false}, {1, 0, true}, {1, 1, true},
		{impl.MaxName, 1, true}, {impl.MaxName + 1, 1, false}, {impl.MaxName + 1, 0, false},
		{1, impl.MaxValue, true}, {1, impl.MaxValue + 1, false},
		{impl.MaxName, impl.MaxValue, true}, {impl.MaxName + 1, impl.MaxValue + 1, false},
		{impl.MaxText, 1, false}, {1, impl.MaxText, false},
	} {
		f := impl.Field{Name: strings.Repeat("n", c.name), Value: strings.Repeat("v", c.value)}
		if impl.FieldOk(f) != c.want {
			t.Errorf("a name of %d bytes with a value of %d is ok: %v", c.name, c.value, !c.want)
		}
	}
}

func TestWrongFieldsAreRefused(t *testing.T) {
	for _, f := range wrongFields() {
		if impl.FieldOk(f) {
			t.Errorf("%.60q is a field", f)
		}
		if s := impl.FieldText(f); s != "" {
			t.Errorf("FieldText(%.60q) is %q", f, s)
		}
		if impl.FieldsOk([]impl.Field{f}) {
			t.Errorf("%.60q is in a list", f)
		}
		for _, l := range [][]impl.Field{nil, fieldsOf("a", "1"), manyFields(3), manyFields(impl.MaxFields)} {
			if got := impl.With(l, f); len(got) != 0 {
				t.Errorf("With of %.60q gives %q", f, got)
			}
		}
	}
}

func TestFieldsOkLengths(t *testing.T) {
	if !impl.FieldsOk(nil) || !impl.FieldsOk([]impl.Field{}) {
		t.Error("a list of no field is refused")
	}
	for n := 0; n <= impl.MaxFields+3; n++ {
		if got := impl.FieldsOk(manyFields(n)); got != (n <= impl.MaxFields) {
			t.Errorf("a list of %d fields is ok: %v", n, got)
		}
	}
	if !impl.FieldsOk(slices.Repeat(fieldsOf("a", ""), impl.MaxFields)) {
		t.Error("MaxFields fields of one name are refused")
	}
}

// Every function that takes a list refuses these.
func TestWrongListsGiveNothing(t *testing.T) {
	for _, l := range wrongLists() {
		if impl.FieldsOk(l) {
			t.Fatalf("%.80q is a list of fields", l)
		}
		for _, name := range []string{"a", "A", "connection", "x", "x-1", "n", "", "nobody", l[0].Name} {
			v, ok := impl.Get(l, name)
			if v != "" || ok {
				t.Errorf("Get(%.80q, %q) is %q %v", l, name, v, ok)
			}
			if len(impl.Values(l, name)) != 0 || impl.Joined(l, name) != "" || len(impl.Words(l, name)) != 0 {
				t.Errorf("%.80q has values of %q", l, name)
			}
			if got := impl.Without(l, name); len(got) != 0 {
				t.Errorf("Without(%.80q, %q) is %q", l, name, got)
			}
		}
		for _, f := range fieldsOf("a", "1", "New", "", "X-1", "v", "n", "v") {
			if got := impl.With(l, f); len(got) != 0 {
				t.Errorf("With(%.80q, %q) is %q", l, f, got)
			}
		}
		if len(impl.HopNames(l)) != 0 || len(impl.EndToEnd(l)) != 0 {
			t.Errorf("%.80q has names %q and fields %q", l, impl.HopNames(l), impl.EndToEnd(l))
		}
	}
}

func TestFieldText(t *testing.T) {
	for _, c := range []struct{ name, value, want string }{
		{"Host", "a.example", "Host: a.example"}, {"a", "", "a: "}, {"A", ":", "A: :"}, {"A", "b: c", "A: b: c"},
		{"x", "a \t b", "x: a \t b"}, {"x", "\xff\x80", "x: \xff\x80"}, {"!#$%&'*+-.^_|~`", "\"", "!#$%&'*+-.^_|~`: \""},
	} {
		if got := impl.FieldText(impl.Field{Name: c.name, Value: c.value}); got != c.want {
			t.Errorf("FieldText of %q and %q is %q", c.name, c.value, got)
		}
	}
}

func TestReadField(t *testing.T) {
	for _, c := range []struct{ line, name, value string }{
		{"Host:a.example", "Host", "a.example"}, {"Host: a.example", "Host", "a.example"}, {"Host:    a", "Host", "a"},
		{"Host:\ta", "Host", "a"}, {"Host:\t\t \ta", "Host", "a"}, {"Host: \t a \t ", "Host", "a"}, {"Host:a ", "Host", "a"}, {"Host:a\t", "Host", "a"},
		{"Host:", "Host", ""}, {"Host: ", "Host", ""}, {"Host:\t", "Host", ""}, {"Host: \t  \t", "Host", ""},
		{"a:b:c", "a", "b:c"}, {"a: b : c", "a", "b : c"}, {"a::", "a", ":"}, {"a: :", "a", ":"}, {"a:::b", "a", "::b"}, {"a: http://b:80/", "a", "http://b:80/"},
		{"hOsT: A b\tC", "hOsT", "A b\tC"}, {"a: \"b, \\\" c\"", "a", "\"b, \\\" c\""}, {"a: \xe4\xff", "a", "\xe4\xff"}, {"1: 2", "1", "2"}, {"~`|: x", "~`|", "x"},
	} {
		f, ok := impl.ReadField(c.line)
		if !ok || f.Name != c.name || f.Value != c.value {
			t.Errorf("ReadField(%q) is %q %v", c.line, f, ok)
		}
	}
}

func checkNoField(t *testing.T, line string) {
	t.Helper()
	if f, ok := impl.ReadField(line); ok || f != (impl.Field{}) {
		t.Errorf("ReadField(%.60q) is %q %v", line, f, ok)
	}
}

func TestReadFieldRefuses(t *testing.T) {
	for _, line := range []string{
		"", " ", "a", "Host", "Host a", "Host a.example", ":", "::", ": a", ":a", ": ", " : a", "\t: a",
		"Host : a", "Host\t: a", "Host  :a", "Host :", " Host: a", "\tHost: a", "a b: c", "a\tb: c",
		"a;b: c", "a/b: c", "(a): b", "\"a\": b", "a=b: c", "a,b: c", "a\x00: b", "\xe4: b", "a\r: b", "\u212a: b",
		"a: b\r\n", "a: b\n", "a: b\r", "a: b\nc: d", "a:\r\n", "a: \x00", "a: b\x7f", "a: b\x1bc", "a:\x0bb", "a: b\x0c", "\r\na: b", "a: b \n",
	} {
		checkNoField(t, line)
	}
}

func TestReadFieldLimits(t *testing.T) {
	name, value := strings.Repeat("n", impl.MaxName), strings.Repeat("v", impl.MaxValue)
	gap := strings.Repeat(" \t", impl.MaxText)
	for _, line := range []string{name + ":" + value, name + ": " + value, name + ":" + gap + value + gap} {
		if f, ok := impl.ReadField(line); !ok || f.Name != name || f.Value != value {
			t.Errorf("a line of %d bytes is read as %.60q %v", len(line), f, ok)
		}
	}
	if f, ok := impl.ReadField("n:" + gap); !ok || f.Name != "n" || f.Value != "" {
		t.Errorf("a line of many blanks is read as %.60q %v", f, ok)
	}
	checkNoField(t, name+"n: v")
	checkNoField(t, "n: "+value+"v")
	checkNoField(t, "n:"+gap+value+"v"+gap)
	checkNoField(t, "n: "+strings.Repeat("v", impl.MaxText+1))
	checkNoField(t, strings.Repeat("n", impl.MaxText+1)+": v")
	checkNoField(t, strings.Repeat("n", impl.MaxText+1))
	checkNoField(t, ":"+gap)
}

func TestReadFieldOfEachShortLine(t *testing.T) {
	whole := regexp.MustCompile(`^([aA]+):[ \t]*((?:[^ \t\n](?:[^\n]*[^ \t\n])?)?)[ \t]*$`)
	eachText("aA: \t\n\x80", 6, func(line string) {
		// The pattern's bytes are runes, so the byte that is none stands in as a sign.
		m := whole.FindStringSubmatch(strings.ReplaceAll(line, "\x80", "#"))
		var want impl.Field
		if m != nil {
			want = impl.Field{Name: m[1], Value: strings.ReplaceAll(m[2], "#", "\x80")}
		}
		if f, ok := impl.ReadField(line); ok != (m != nil) || f != want {
			t.Fatalf("ReadField(%q) is %q %v, not %q", line, f, ok, want)
		}
	})
}

// checkComesBack is promise 5, its first part, for one field.
func checkComesBack(t *testing.T, f impl.Field) {
	t.Helper()
	line := impl.FieldText(f)
	if line != f.Name+": "+f.Value {
		t.Fatalf("FieldText(%.60q) is %.60q", f, line)
	}
	for _, form := range []string{line, f.Name + ":" + f.Value, f.Name + ":\t \t" + f.Value + " \t"} {
		if back, ok := impl.ReadField(form); !ok || back != f {
			t.Fatalf("%.60q came back from %.60q as %.60q %v", f, form, back, ok)
		}
	}
}

func TestFieldsComeBackFromTheirLines(t *testing.T) {
	count := 0
	eachText("a:\" \t,\\\xff", 4, func(value string) {
		f := impl.Field{Name: "Na-me", Value: value}
		if strings.Trim(value, " \t") != value {
			if impl.FieldOk(f) || impl.FieldText(f) != "" {
				t.Fatalf("%q is a field", f)
			}
			return
		}
		count++
		checkComesBack(t, f)
	})
	if count == 0 {
		t.Fatal("no field was tried")
	}
	eachText("aZ9!`", 4, func(name string) {
		if name != "" {
			checkComesBack(t, impl.Field{Name: name, Value: "v"})
			checkComesBack(t, impl.Field{Name: name})
		}
	})
	for n := 1; n <= impl.MaxName; n++ {
		checkComesBack(t, impl.Field{Name: strings.Repeat("N", n), Value: "v"})
	}
	for n := 0; n <= impl.MaxValue; n++ {
		checkComesBack(t, impl.Field{Name: "n", Value: strings.Repeat("v", n)})
		checkComesBack(t, impl.Field{Name: strings.Repeat("n", impl.MaxName), Value: strings.Repeat(":", n)})
	}
	for i := 0; i < 256; i++ {
		if plain(i) {
			checkComesBack(t, impl.Field{Name: "n", Value: "a" + string([]byte{byte(i)}) + "b"})
		}
	}
}

// A line that is taken is written again as a line of the same field.
func TestLinesThatAreTakenHaveOneForm(t *testing.T) {
	eachText("ab: \t\r", 6, func(line string) {
		f, ok := impl.ReadField(line)
		if !ok {
			return
		}
		if !impl.FieldOk(f) {
			t.Fatalf("ReadField(%q) gives %q, which is no field", line, f)
		}
		checkComesBack(t, f)
	})
}

func TestGetAndValues(t *testing.T) {
	l := fieldsOf("Accept", "a, b", "X", "1", "accept", "c", "Empty", "", "ACCEPT", "", "empty", "later", "x", "1")
	for _, c := range []struct {
		name   string
		values []string
		joined string
		words  []string
	}{
		{"accept", []string{"a, b", "c", ""}, "a, b, c, ", []string{"a", "b", "c"}},
		{"ACCEPT", []string{"a, b", "c", ""}, "a, b, c, ", []string{"a", "b", "c"}},
		{"aCCepT", []string{"a, b", "c", ""}, "a, b, c, ", []string{"a", "b", "c"}},
		{"x", []string{"1", "1"}, "1, 1", []string{"1", "1"}},
		{"X", []string{"1", "1"}, "1, 1", []string{"1", "1"}},
		{"empty", []string{"", "later"}, ", later", []string{"later"}},
		{"", nil, "", nil}, {"nobody", nil, "", nil}, {"accep", nil, "", nil}, {"accept ", nil, "", nil}, {" accept", nil, "", nil},
		{"accepts", nil, "", nil}, {"accept:", nil, "", nil}, {"x\x00", nil, "", nil}, {"\xff", nil, "", nil}, {strings.Repeat("x", impl.MaxText+1), nil, "", nil},
	} {
		first, is := "", len(c.values) > 0
		if is {
			first = c.values[0]
		}
		if v, ok := impl.Get(l, c.name); v != first || ok != is {
			t.Errorf("Get of %.20q is %q %v", c.name, v, ok)
		}
		checkTexts(t, fmt.Sprintf("Values of %.20q", c.name), impl.Values(l, c.name), c.values)
		if got := impl.Joined(l, c.name); got != c.joined {
			t.Errorf("Joined of %.20q is %q", c.name, got)
		}
		checkTexts(t, fmt.Sprintf("Words of %.20q", c.name), impl.Words(l, c.name), c.words)
	}
}

func TestAnEmptyValueIsThere(t *testing.T) {
	one := fieldsOf("a", "")
	if v, ok := impl.Get(one, "A"); v != "" || !ok {
		t.Errorf("Get is %q %v", v, ok)
	}
	checkTexts(t, "Values", impl.Values(one, "A"), []string{""})
	checkTexts(t, "Words", impl.Words(one, "A"), nil)
	if got := impl.Joined(fieldsOf("a", "", "A", ""), "a"); got != ", " {
		t.Errorf("Joined is %q", got)
	}
}

func TestListsOfNoField(t *testing.T) {
	for _, l := range [][]impl.Field{nil, {}} {
		if v, ok := impl.Get(l, "a"); v != "" || ok {
			t.Errorf("Get is %q %v", v, ok)
		}
		if len(impl.Values(l, "a")) != 0 || impl.Joined(l, "a") != "" || len(impl.Words(l, "a")) != 0 {
			t.Error("there are values")
		}
		if len(impl.Without(l, "a")) != 0 || len(impl.EndToEnd(l)) != 0 {
			t.Error("there are fields")
		}
		checkFields(t, "With", impl.With(l, impl.Field{Name: "A", Value: "b"}), fieldsOf("A", "b"))
		checkTexts(t, "HopNames", impl.HopNames(l), strings.Fields(sevenHops))
	}
}

// Bytes that only Unicode folds alike are not alike here, and names are told apart byte by byte.
func TestNamesAreComparedByTheirFold(t *testing.T) {
	l := fieldsOf("k", "1", "K", "2", "s", "3", "~", "4", "^", "5", "`", "6")
	for name, want := range map[string]string{"k": "1, 2", "K": "1, 2", "\u212a": "", "s": "3", "S": "3", "\u017f": "", "^": "5", "~": "4", "`": "6", "@": ""} {
		if got := impl.Joined(l, name); got != want {
			t.Errorf("Joined of %q is %q", name, got)
		}
		kept := len(l) - len(impl.Values(l, name))
		if got := impl.Without(l, name); len(got) != kept {
			t.Errorf("Without of %q is %q", name, got)
		}
	}
}

func TestWords(t *testing.T) {
	for _, c := range []struct {
		values []string
		want   []string
	}{
		{[]string{"a,b,,c"}, []string{"a", "b", "c"}}, {nil, nil}, {[]string{","}, nil}, {[]string{",", "", ","}, nil},
		{[]string{"a b", "c;d=e"}, []string{"a b", "c;d=e"}}, {[]string{`"a,b"`, "c"}, []string{`"a,b"`, "c"}},
		{[]string{`"a`, `b"`}, []string{`"a, b"`}}, {[]string{`a="b`, "c", `d", e`}, []string{`a="b, c, d"`, "e"}},
		{[]string{`"a\`, `",b`}, []string{`"a\, "`, "b"}}, {[]string{`"`, "a", "b"}, []string{`", a, b`}},
		{[]string{"b", "a", "b"}, []string{"b", "a", "b"}}, {[]string{"B", "b"}, []string{"B", "b"}},
	} {
		var l []impl.Field
		for i, v := range c.values {
			l = append(l, impl.Field{Name: []string{"List", "lisT"}[i%2], Value: v}, impl.Field{Name: "other", Value: "o"})
		}
		checkTexts(t, fmt.Sprintf("Words of %q", c.values), impl.Words(l, "list"), c.want)
	}
}

// The longest text that values give is one that Elements takes.
func TestWordsOfTheGreatestList(t *testing.T) {
	value := strings.Repeat("a,", impl.MaxValue/2-1) + "bc"
	var l []impl.Field
	for range impl.MaxFields {
		l = append(l, impl.Field{Name: "n", Value: value})
	}
	if got := len(impl.Joined(l, "N")); got != impl.MaxFields*impl.MaxValue+2*(impl.MaxFields-1) {
		t.Errorf("%d bytes are joined", got)
	}
	if got := len(impl.Words(l, "N")); got != impl.MaxFields*impl.MaxValue/2 {
		t.Errorf("there are %d words", got)
	}
	if got := len(impl.Values(l, "N")); got != impl.MaxFields {
		t.Errorf("there are %d values", got)
	}
}

func TestWithout(t *testing.T) {
	l := fieldsOf("B", "1", "a", "2", "b", "3", "C", "4", "A", "5", "b", "1")
	for name, want := range map[string][]impl.Field{
		"a": fieldsOf("B", "1", "b", "3", "C", "4", "b", "1"), "A": fieldsOf("B", "1", "b", "3", "C", "4", "b", "1"),
		"b": fieldsOf("a", "2", "C", "4", "A", "5"), "B": fieldsOf("a", "2", "C", "4", "A", "5"),
		"c": fieldsOf("B", "1", "a", "2", "b", "3", "A", "5", "b", "1"),
		"":  l, "d": l, "ab": l, " a": l, "a:": l, "\xff": l, strings.Repeat("a", impl.MaxText+1): l,
	} {
		checkFields(t, fmt.Sprintf("Without %.20q", name), impl.Without(l, name), want)
	}
	checkFields(t, "Without the only name", impl.Without(fieldsOf("a", "1", "A", "2"), "a"), nil)
	full := manyFields(impl.MaxFields)
	checkFields(t, "Without of a full list", impl.Without(full, "x-3"), append(slices.Clone(full[:3]), full[4:]...))
	checkFields(t, "Without nothing of a full list", impl.Without(full, "y"), full)
}

func TestWith(t *testing.T) {
	l := fieldsOf("B", "1", "a", "2", "b", "3", "C", "4")
	for _, c := range []struct{ name, value string }{{"b", "new"}, {"B", "1"}, {"b", ""}} {
		want := append(fieldsOf("a", "2", "C", "4"), impl.Field{Name: c.name, Value: c.value})
		checkFields(t, "With where there were several", impl.With(l, impl.Field{Name: c.name, Value: c.value}), want)
	}
	checkFields(t, "With where there was one", impl.With(l, impl.Field{Name: "A", Value: "new"}), fieldsOf("B", "1", "b", "3", "C", "4", "A", "new"))
	checkFields(t, "With where there was none", impl.With(l, impl.Field{Name: "D", Value: "new"}), fieldsOf("B", "1", "a", "2", "b", "3", "C", "4", "D", "new"))
	checkFields(t, "With the same one", impl.With(l, impl.Field{Name: "a", Value: "2"}), fieldsOf("B", "1", "b", "3", "C", "4", "a", "2"))
}

func TestWithIntoAFullList(t *testing.T) {
	full := manyFields(impl.MaxFields)
	for at := range full {
		f := impl.Field{Name: strings.ToLower(full[at].Name), Value: "new"}
		want := append(append(slices.Clone(full[:at]), full[at+1:]...), f)
		checkFields(t, "With of a name that is there", impl.With(full, f), want)
	}
	f := impl.Field{Name: "Y", Value: "new"}
	checkFields(t, "With of a name that is not there", impl.With(full, f), nil)
	checkFields(t, "With into one fewer", impl.With(full[1:], f), append(slices.Clone(full[1:]), f))
	checkFields(t, "With of the one name of all", impl.With(slices.Repeat(fieldsOf("y", "v"), impl.MaxFields), f), fieldsOf("Y", "new"))
	checkFields(t, "With into a list that is too long, of which one has that name", impl.With(manyFields(impl.MaxFields+1), impl.Field{Name: "X-0", Value: "new"}), nil)
}

// Promise 5, its second part: what is put in is alone by its name, at the end, and all else stays as it stood.
func TestWhatIsPutInIsAlone(t *testing.T) {
	kinds := fieldsOf("a", "1", "A", "2", "b", "1", "B", "", "ab", "x, y", "Connection", "a")
	puts := fieldsOf("a", "new", "A", "1", "b", "", "c", "new", "aB", "z", "CONNECTION", "b")
	eachList(kinds, 4, func(l []impl.Field) {
		for _, f := range puts {
			var want []impl.Field
			for _, old := range l {
				if smallName(old) != smallName(f) {
					want = append(want, old)
				}
			}
			if got := impl.Without(l, f.Name); !slices.Equal(got, want) {
				t.Fatalf("Without(%q, %q) is %q", l, f.Name, got)
			}
			got := impl.With(l, f)
			if !slices.Equal(got, append(want, f)) {
				t.Fatalf("With(%q, %q) is %q", l, f, got)
			}
			if values := impl.Values(got, strings.ToUpper(f.Name)); len(values) != 1 || values[0] != f.Value {
				t.Fatalf("behind With(%q, %q) the values are %q", l, f, values)
			}
			if again := impl.With(got, f); !impl.FieldsOk(got) || !slices.Equal(again, got) {
				t.Fatalf("put in again, %q becomes %q", got, again)
			}
		}
	})
}

// hopsAnd are the seven names and these, sorted.
func hopsAnd(more ...string) []string {
	list := append(strings.Fields(sevenHops), more...)
	sort.Strings(list)
	return list
}

func TestHopNames(t *testing.T) {
	for _, c := range []struct {
		what string
		l    []impl.Field
		want []string
	}{
		{"no field connection", fieldsOf("a", "b", "close", "x"), hopsAnd()},
		{"no words", fieldsOf("Connection", ""), hopsAnd()},
		{"commas alone", fieldsOf("Connection", ", ,,\t,"), hopsAnd()},
		{"one word", fieldsOf("Connection", "close"), hopsAnd("close")},
		{"great letters", fieldsOf("CONNECTION", "X-Hop, CLOSE"), hopsAnd("close", "x-hop")},
		{"ahead of and behind all seven", fieldsOf("connection", "zz, aa, ~, !"), hopsAnd("!", "aa", "zz", "~")},
		{"between the seven", fieldsOf("connection", "l, tea, t"), hopsAnd("l", "t", "tea")},
		{"a word twice", fieldsOf("connection", "a, b, A, a"), hopsAnd("a", "b")},
		{"one of the seven", fieldsOf("connection", "TE, Keep-Alive, upgrade"), hopsAnd()},
		{"all of the seven", fieldsOf("connection", strings.ReplaceAll(sevenHops, " ", ",")), hopsAnd()},
		{"itself and another", fieldsOf("connection", "Connection, a"), hopsAnd("a")},
		{"several fields", fieldsOf("connection", "b, c", "x", "d", "Connection", "a", "CONNECTION", "c, e"), hopsAnd("a", "b", "c", "e")},
		{"no Token", fieldsOf("connection", `a b, c/d, "e", f=g, h;i, (j), @`), hopsAnd()},
		{"Tokens and others", fieldsOf("connection", `a b, c, "d", e=f, g`), hopsAnd("c", "g")},
		{"a comma in quotes", fieldsOf("connection", `"a, b", c`), hopsAnd("c")},
		{"quotes over two fields", fieldsOf("connection", `a, "b`, "connection", `c", d`), hopsAnd("a", "d")},
		{"bytes above 127", fieldsOf("connection", "\xe4, \u212a, k"), hopsAnd("k")},
		{"a name of another list", fieldsOf("connection-x", "a", "proxy-connection", "b", "te", "c", "upgrade", "d"), hopsAnd()},
		{"a word longer than any name", fieldsOf("connection", strings.Repeat("w", impl.MaxValue)), hopsAnd(strings.Repeat("w", impl.MaxValue))},
	} {
		checkTexts(t, "HopNames with "+c.what, impl.HopNames(c.l), c.want)
	}
}

func TestHopNamesOfTheGreatestList(t *testing.T) {
	var l []impl.Field
	var words []string
	for i := range impl.MaxFields {
		var row []string
		for j := range 40 {
			row = append(row, fmt.Sprintf("%c%d", 'a'+i, j))
		}
		words = append(words, row...)
		l = append(l, impl.Field{Name: "Connection", Value: strings.ToUpper(strings.Join(row, ","))})
	}
	if !impl.FieldsOk(l) {
		t.Fatal("the list is refused")
	}
	checkTexts(t, "HopNames", impl.HopNames(l), hopsAnd(words...))
	checkFields(t, "EndToEnd", impl.EndToEnd(l), nil)
}

func TestEndToEnd(t *testing.T) {
	for _, c := range []struct {
		what    string
		l, want []impl.Field
	}{
		{"nothing of this connection", fieldsOf("B", "1", "a", "2", "b", "3"), fieldsOf("B", "1", "a", "2", "b", "3")},
		{"all of the seven", fieldsOf("Connection", "", "Keep-Alive", "1", "PROXY-CONNECTION", "x", "TE", "t", "Trailer", "a", "Transfer-Encoding", "chunked", "upgrade", "h"), nil},
		{"words", fieldsOf("a", "1", "X-Hop", "2", "connection", "x-hop, close", "B", "3", "x-hoP", "4", "Close", "5"), fieldsOf("a", "1", "B", "3")},
		{"words behind the fields that they name", fieldsOf("a", "1", "b", "2", "Connection", "A"), fieldsOf("b", "2")},
		{"several fields connection", fieldsOf("connection", "a", "a", "1", "b", "2", "c", "3", "Connection", "C"), fieldsOf("b", "2")},
		{"a word that no field has", fieldsOf("connection", "x", "a", "1"), fieldsOf("a", "1")},
		{"a word that is no Token", fieldsOf("connection", `"a", b c`, "a", "1", "b", "2", "c", "3"), fieldsOf("a", "1", "b", "2", "c", "3")},
		{"names that begin alike", fieldsOf("te", "1", "tea", "2", "t", "3", "connection", "x", "xx", "4", "keep", "5", "connections", "6"), fieldsOf("tea", "2", "t", "3", "xx", "4", "keep", "5", "connections", "6")},
		{"words of another list of this connection", fieldsOf("Trailer", "a", "Upgrade", "b", "TE", "c", "Proxy-Connection", "d", "a", "1", "b", "2", "c", "3", "d", "4"), fieldsOf("a", "1", "b", "2", "c", "3", "d", "4")},
		{"a field by which messages are framed", fieldsOf("Content-Length", "3", "Host", "h", "Via", "v", "Date", "d"), fieldsOf("Content-Length", "3", "Host", "h", "Via", "v", "Date", "d")},
		{"fields that are alike", fieldsOf("a", "1", "a", "1", "te", "1", "a", "1"), fieldsOf("a", "1", "a", "1", "a", "1")},
	} {
		checkFields(t, "EndToEnd with "+c.what, impl.EndToEnd(c.l), c.want)
	}
	full := manyFields(impl.MaxFields)
	checkFields(t, "EndToEnd of a full list", impl.EndToEnd(full), full)
	full[7] = impl.Field{Name: "Connection", Value: "x-0, x-19"}
	checkFields(t, "EndToEnd of a full list with words", impl.EndToEnd(full), append(slices.Clone(full[1:7]), full[8:19]...))
}

func TestEachOfTheSeven(t *testing.T) {
	for _, name := range strings.Fields(sevenHops) {
		for _, form := range []string{name, strings.ToUpper(name), strings.ToUpper(name[:1]) + name[1:]} {
			checkFields(t, "EndToEnd beside "+form, impl.EndToEnd(fieldsOf("a", "1", form, "x", "b", "2")), fieldsOf("a", "1", "b", "2"))
			l := fieldsOf("a", "1", form+"s", "x", "x"+form, "y", form[:len(form)-1], "z")
			checkFields(t, "EndToEnd beside what is nearly "+form, impl.EndToEnd(l), l)
		}
	}
}

// hopWord is a word of connection that names fields, told in another way.
var hopWord = regexp.MustCompile("^[A-Za-z0-9!#$%&'*+.^_|~`-]+$")

// hopsIn are the names that speak of this connection, told in another way; no value has quotes.
func hopsIn(l []impl.Field) []string {
	list := strings.Fields(sevenHops)
	for _, f := range l {
		if smallName(f) != "connection" {
			continue
		}
		for _, word := range strings.Split(f.Value, ",") {
			word = strings.ToLower(strings.Trim(word, " \t"))
			if hopWord.MatchString(word) {
				list = append(list, word)
			}
		}
	}
	sort.Strings(list)
	return slices.Compact(list)
}

// Promise 5, its third part: a field is left out if and only if it speaks of this connection.
func TestEndToEndOfEachShortList(t *testing.T) {
	kinds := fieldsOf("a", "1", "A", "2", "B", "3", "TE", "a", "connection", "A", "CONNECTION", "b c, te ,x", "Connection", "b,,c", "Close", "4")
	eachList(kinds, 4, func(l []impl.Field) {
		hops := hopsIn(l)
		if got := impl.HopNames(l); !slices.Equal(got, hops) {
			t.Fatalf("HopNames(%q) is %q, not %q", l, got, hops)
		}
		var want []impl.Field
		for _, f := range l {
			if !slices.Contains(hops, smallName(f)) {
				want = append(want, f)
			}
		}
		got := impl.EndToEnd(l)
		if !slices.Equal(got, want) {
			t.Fatalf("EndToEnd(%q) is %q, not %q", l, got, want)
		}
		if again := impl.EndToEnd(got); !slices.Equal(again, got) {
			t.Fatalf("EndToEnd again, of %q, is %q", got, again)
		}
		for _, name := range hops {
			if len(impl.Values(got, name)) != 0 {
				t.Fatalf("EndToEnd(%q) has a field %q", l, name)
			}
		}
	})
}

// What is answered hangs on nothing but the list: many calls, whose maps are gone through in many orders.
func TestTheSameAnswerEachTime(t *testing.T) {
	l := fieldsOf("connection", "h, g, f, e, d, c, b, a, z, y", "a", "1", "k", "2", "b", "3", "j", "4", "i", "5")
	hops, kept := impl.HopNames(l), impl.EndToEnd(l)
	for range 200 {
		checkTexts(t, "HopNames again", impl.HopNames(l), hops)
		checkFields(t, "EndToEnd again", impl.EndToEnd(l), kept)
	}
}

// rightLists are lists of fields of many kinds, to be handed in.
func rightLists() [][]impl.Field {
	return [][]impl.Field{
		{}, fieldsOf("a", "1"), fieldsOf("a", "1", "b", "2"), fieldsOf("a", "1", "A", "2", "b", "3"), fieldsOf("b", "1", "c", "2", "a", "3"),
		fieldsOf("Connection", "a, x", "a", "1", "te", "2", "b", "x, y"), fieldsOf("b", "1", "Connection", "close"), fieldsOf("te", "1", "a", "2"),
		manyFields(impl.MaxFields - 1), manyFields(impl.MaxFields),
	}
}

// roomyFields is l with spare room behind it, and the whole of that memory.
func roomyFields(l []impl.Field) ([]impl.Field, []impl.Field) {
	memory := append(slices.Clone(l), fieldsOf("behind", "it", "and", "more")...)
	return memory[:len(l)], memory
}

// fieldAnswers are all lists of fields that the functions answer of l.
func fieldAnswers(l []impl.Field) map[string][]impl.Field {
	list := map[string][]impl.Field{"EndToEnd": impl.EndToEnd(l)}
	for _, name := range []string{"a", "B", "c", "nobody", ""} {
		list["Without "+name] = impl.Without(l, name)
		list["With "+name] = impl.With(l, impl.Field{Name: name, Value: "put in"})
	}
	return list
}

// textAnswers are all lists of texts that the functions answer of l.
func textAnswers(l []impl.Field) map[string][]string {
	list := map[string][]string{"HopNames": impl.HopNames(l)}
	for _, name := range []string{"a", "B", "connection", "nobody", ""} {
		list["Values "+name] = impl.Values(l, name)
		list["Words "+name] = impl.Words(l, name)
	}
	return list
}

func TestFieldsHandedInStay(t *testing.T) {
	for _, l := range append(rightLists(), wrongLists()...) {
		given, memory := roomyFields(l)
		before := slices.Clone(memory)
		fieldAnswers(given)
		textAnswers(given)
		impl.FieldsOk(given)
		impl.Get(given, "a")
		impl.Joined(given, "a")
		if !slices.Equal(memory, before) {
			t.Errorf("the fields, with the room behind them, became %.200q", memory)
		}
	}
}

func TestListsOfFieldsAnsweredAreNewMemory(t *testing.T) {
	written := impl.Field{Name: "written", Value: "into"}
	for _, l := range rightLists() {
		given, memory := roomyFields(l)
		before := slices.Clone(memory)
		want := fieldAnswers(l)
		for name, got := range fieldAnswers(given) {
			for i := range got {
				got[i] = written
			}
			_ = append(got, written)
			if !slices.Equal(memory, before) {
				t.Fatalf("writing into what %s answers changes the argument to %q", name, memory)
			}
		}
		answers := fieldAnswers(given)
		for i := range memory {
			memory[i] = written
		}
		for name, got := range answers {
			checkFields(t, name+", the argument being written into,", got, want[name])
		}
	}
}

func TestListsOfTextsAnsweredAreNewMemory(t *testing.T) {
	for _, l := range rightLists() {
		want := textAnswers(l)
		for _, got := range textAnswers(l) {
			for i := range got {
				got[i] = "written"
			}
			_ = append(got, "written")
		}
		for name, got := range textAnswers(l) {
			checkTexts(t, name+", an earlier answer being written into,", got, want[name])
		}
	}
	names := impl.HopNames(nil)
	names[0] = "written"
	checkTexts(t, "HopNames behind a change", impl.HopNames(nil), hopsAnd())
	checkFields(t, "EndToEnd behind a change", impl.EndToEnd(fieldsOf("Connection", "", "written", "1")), fieldsOf("written", "1"))
}

func TestOneListGoesOnInTwoWays(t *testing.T) {
	l := fieldsOf("a", "1", "b", "2", "c", "3")
	base := impl.Without(l, "a")
	left, right := impl.With(base, impl.Field{Name: "x", Value: "left"}), impl.With(base, impl.Field{Name: "x", Value: "right"})
	checkFields(t, "the first", left, fieldsOf("b", "2", "c", "3", "x", "left"))
	checkFields(t, "the second", right, fieldsOf("b", "2", "c", "3", "x", "right"))
	checkFields(t, "what they grew from", base, fieldsOf("b", "2", "c", "3"))
}
