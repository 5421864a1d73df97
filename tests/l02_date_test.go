package tests

import (
	"fmt"
	"math"
	"strconv"
	"strings"
	"testing"
	"time"

	"loop.example/g00651/impl"
)

// dateForm is one of the five forms, beside the library's pattern of it.
type dateForm struct {
	name    string
	write   func(int) string
	read    func(string) (int, bool)
	pattern string
}

func dateForms() []dateForm {
	return []dateForm{
		{"HttpDate", impl.HttpDate, impl.ReadHttpDate, "Mon, 02 Jan 2006 15:04:05 GMT"},
		{"LongDate", impl.LongDate, impl.ReadHttpDate, "Monday, 02-Jan-06 15:04:05 GMT"},
		{"LineDate", impl.LineDate, impl.ReadHttpDate, "Mon Jan _2 15:04:05 2006"},
		{"WarcDate", impl.WarcDate, impl.ReadWarcDate, "2006-01-02T15:04:05Z"},
		{"Stamp", impl.Stamp, impl.ReadStamp, "20060102150405"},
	}
}

// wanted is the text that the library writes for a time.
func (f dateForm) wanted(t int) string {
	at := time.Unix(int64(t), 0).UTC()
	if f.name == "LongDate" && at.Year() > 2069 {
		return ""
	}
	return at.Format(f.pattern)
}

// timeIn is the time of which s is the text, by the library.
func (f dateForm) timeIn(s string) (int, bool) {
	at, err := time.Parse(f.pattern, s)
	if err != nil {
		return 0, false
	}
	// The library takes the year 69 for 1969.
	if f.name == "LongDate" && at.Year() == 1969 {
		at = at.AddDate(100, 0, 0)
	}
	t := int(at.Unix())
	if t < 0 || t > impl.MaxTime || f.wanted(t) != s {
		return 0, false
	}
	return t, true
}

// timesIn asks for the three forms that ReadHttpDate reads, and for the form alone where it has a reader of its own.
func (f dateForm) timesIn(s string) (int, bool) {
	forms := dateForms()
	if f.name == "WarcDate" || f.name == "Stamp" {
		return f.timeIn(s)
	}
	for _, form := range forms[:3] {
		if t, ok := form.timeIn(s); ok {
			return t, true
		}
	}
	return 0, false
}

func timeOf(year, month, day, hour, minute, second int) int {
	return int(time.Date(year, time.Month(month), day, hour, minute, second, 0, time.UTC).Unix())
}

// edgeTimes are the first and the last seconds of days, months and years, around the edges that the document names.
func edgeTimes() []int {
	list := []int{0, 1, 59, 60, 3599, 3600, 86399, 86400, impl.MaxTime - 1, impl.MaxTime, 1583251521}
	years := []int{1970, 1971, 1972, 1999, 2000, 2001, 2019, 2020, 2069, 2070, 2096, 2099, 2100, 2101, 2104, 2200, 2300, 2399, 2400, 2401, 4000, 8000, 9900, 9996, 9999}
	for _, year := range years {
		for month := 1; month <= 12; month++ {
			list = append(list, timeOf(year, month, 1, 0, 0, 0), timeOf(year, month+1, 1, 0, 0, 0)-1)
		}
		for day := 27; day <= 30; day++ {
			first := timeOf(year, 2, day, 0, 0, 0)
			list = append(list, first, first+86399, first+43200)
		}
		for day := 1; day <= 31; day++ {
			list = append(list, timeOf(year, 3, day, 16, 5, 21))
		}
	}
	return list
}

func noTimes() []int {
	return []int{-1, -2, -86400, impl.MaxTime + 1, impl.MaxTime + 86400, math.MaxInt, math.MinInt, math.MinInt + 1, math.MaxInt - 1}
}

func TestConstantsOfDates(t *testing.T) {
	if impl.MaxTime != 253402300799 || impl.MaxTime != timeOf(9999, 12, 31, 23, 59, 59) {
		t.Error("MaxTime is not the last second of 9999")
	}
}

func TestDatesByHand(t *testing.T) {
	for _, c := range []struct {
		at                           int
		http, long, line, warc, mark string
	}{
		{0, "Thu, 01 Jan 1970 00:00:00 GMT", "Thursday, 01-Jan-70 00:00:00 GMT", "Thu Jan  1 00:00:00 1970", "1970-01-01T00:00:00Z", "19700101000000"},
		{1583251521, "Tue, 03 Mar 2020 16:05:21 GMT", "Tuesday, 03-Mar-20 16:05:21 GMT", "Tue Mar  3 16:05:21 2020", "2020-03-03T16:05:21Z", "20200303160521"},
		{784111777, "Sun, 06 Nov 1994 08:49:37 GMT", "Sunday, 06-Nov-94 08:49:37 GMT", "Sun Nov  6 08:49:37 1994", "1994-11-06T08:49:37Z", "19941106084937"},
		{951827696, "Tue, 29 Feb 2000 12:34:56 GMT", "Tuesday, 29-Feb-00 12:34:56 GMT", "Tue Feb 29 12:34:56 2000", "2000-02-29T12:34:56Z", "20000229123456"},
		{3155759999, "Tue, 31 Dec 2069 23:59:59 GMT", "Tuesday, 31-Dec-69 23:59:59 GMT", "Tue Dec 31 23:59:59 2069", "2069-12-31T23:59:59Z", "20691231235959"},
		{3155760000, "Wed, 01 Jan 2070 00:00:00 GMT", "", "Wed Jan  1 00:00:00 2070", "2070-01-01T00:00:00Z", "20700101000000"},
		{4107542400, "Mon, 01 Mar 2100 00:00:00 GMT", "", "Mon Mar  1 00:00:00 2100", "2100-03-01T00:00:00Z", "21000301000000"},
		{impl.MaxTime, "Fri, 31 Dec 9999 23:59:59 GMT", "", "Fri Dec 31 23:59:59 9999", "9999-12-31T23:59:59Z", "99991231235959"},
	} {
		if got := impl.HttpDate(c.at); got != c.http {
			t.Errorf("HttpDate(%d) is %q", c.at, got)
		}
		if got := impl.LongDate(c.at); got != c.long {
			t.Errorf("LongDate(%d) is %q", c.at, got)
		}
		if got := impl.LineDate(c.at); got != c.line {
			t.Errorf("LineDate(%d) is %q", c.at, got)
		}
		if got := impl.WarcDate(c.at); got != c.warc {
			t.Errorf("WarcDate(%d) is %q", c.at, got)
		}
		if got := impl.Stamp(c.at); got != c.mark {
			t.Errorf("Stamp(%d) is %q", c.at, got)
		}
	}
}

func TestEveryDay(t *testing.T) {
	lengths := []int{31, 28, 31, 30, 31, 30, 31, 31, 30, 31, 30, 31}
	first, weekday := 0, 3
	for year := 1970; year <= 9999; year++ {
		for month := 1; month <= 12; month++ {
			days := lengths[month-1]
			if month == 2 && (year%400 == 0 || year%4 == 0 && year%100 != 0) {
				days++
			}
			for day := 1; day <= days; day++ {
				begin := impl.Civil{Year: year, Month: month, Day: day}
				end := impl.Civil{Year: year, Month: month, Day: day, Hour: 23, Minute: 59, Second: 59}
				checkHour(t, first, begin, weekday)
				checkHour(t, first+86399, end, weekday)
				first += 86400
				weekday = (weekday + 1) % 7
			}
			if impl.CivilOk(impl.Civil{Year: year, Month: month, Day: days + 1}) {
				t.Fatalf("%d-%d has a day too many", year, month)
			}
		}
		if t.Failed() {
			t.FailNow()
		}
	}
	if first != impl.MaxTime+1 {
		t.Errorf("the years end at %d", first)
	}
}

func checkHour(t *testing.T, at int, want impl.Civil, weekday int) {
	if got, ok := impl.CivilOf(at); !ok || got != want {
		t.Errorf("CivilOf(%d) is %v %v, not %v", at, got, ok, want)
	}
	if got, ok := impl.SecondsOf(want); !ok || got != at {
		t.Errorf("SecondsOf(%v) is %d %v, not %d", want, got, ok, at)
	}
	if got := impl.Weekday(at); got != weekday {
		t.Errorf("Weekday(%d) is %d, not %d", at, got, weekday)
	}
	if !impl.CivilOk(want) {
		t.Errorf("%v is not CivilOk", want)
	}
}

func TestEverySecondOfADay(t *testing.T) {
	first := timeOf(2024, 2, 29, 0, 0, 0)
	last := impl.Stamp(first - 1)
	for second := range 86400 {
		want := impl.Civil{Year: 2024, Month: 2, Day: 29, Hour: second / 3600, Minute: second % 3600 / 60, Second: second % 60}
		checkHour(t, first+second, want, 3)
		next := impl.Stamp(first + second)
		if next <= last {
			t.Fatalf("the stamp %q is not later than %q", next, last)
		}
		last = next
		if t.Failed() {
			return
		}
	}
}

func TestCivilOkBounds(t *testing.T) {
	base := impl.Civil{Year: 2020, Month: 3, Day: 3, Hour: 16, Minute: 5, Second: 21}
	parts := []struct {
		name     string
		from, to int
		put      func(*impl.Civil, int)
	}{
		{"Year", 1970, 9999, func(c *impl.Civil, n int) { c.Year = n }},
		{"Month", 1, 12, func(c *impl.Civil, n int) { c.Month = n }},
		{"Day", 1, 31, func(c *impl.Civil, n int) { c.Day = n }},
		{"Hour", 0, 23, func(c *impl.Civil, n int) { c.Hour = n }},
		{"Minute", 0, 59, func(c *impl.Civil, n int) { c.Minute = n }},
		{"Second", 0, 59, func(c *impl.Civil, n int) { c.Second = n }},
	}
	for _, part := range parts {
		for _, n := range []int{part.from - 1, part.from, part.to, part.to + 1, -1, math.MinInt, math.MaxInt, math.MaxInt / 2, 1 << 32, 1<<32 + part.from} {
			c := base
			part.put(&c, n)
			want := n >= part.from && n <= part.to
			if got := impl.CivilOk(c); got != want {
				t.Errorf("CivilOk with %s %d is %v", part.name, n, got)
			}
			if at, ok := impl.SecondsOf(c); ok != want || !ok && at != 0 {
				t.Errorf("SecondsOf with %s %d is %d %v", part.name, n, at, ok)
			}
		}
	}
	if impl.CivilOk(impl.Civil{}) {
		t.Error("the zero value is CivilOk")
	}
}

func TestFebruary(t *testing.T) {
	for year, days := range map[int]int{1970: 28, 1972: 29, 1999: 28, 2000: 29, 2001: 28, 2004: 29, 2096: 29, 2100: 28, 2104: 29, 2200: 28, 2300: 28, 2400: 29, 2800: 29, 9900: 28, 9996: 29, 9999: 28} {
		if !impl.CivilOk(impl.Civil{Year: year, Month: 2, Day: 28}) || !impl.CivilOk(impl.Civil{Year: year, Month: 3, Day: 1}) {
			t.Errorf("the 28th of February or the 1st of March is missing in %d", year)
		}
		if got := impl.CivilOk(impl.Civil{Year: year, Month: 2, Day: 29}); got != (days == 29) {
			t.Errorf("CivilOk of the 29th of February %d is %v", year, got)
		}
		if impl.CivilOk(impl.Civil{Year: year, Month: 2, Day: 30}) {
			t.Errorf("February %d has 30 days", year)
		}
		begin, _ := impl.SecondsOf(impl.Civil{Year: year, Month: 2, Day: 28})
		end, _ := impl.SecondsOf(impl.Civil{Year: year, Month: 3, Day: 1})
		if end-begin != (days-27)*86400 {
			t.Errorf("from the 28th of February %d to March there are %d seconds", year, end-begin)
		}
		leap := strconv.Itoa(year) + "0229120000"
		if _, ok := impl.ReadStamp(leap); ok != (days == 29) {
			t.Errorf("ReadStamp(%q) says %v", leap, ok)
		}
	}
}

func TestNoTimes(t *testing.T) {
	for _, at := range noTimes() {
		if c, ok := impl.CivilOf(at); ok || c != (impl.Civil{}) {
			t.Errorf("CivilOf(%d) is %v %v", at, c, ok)
		}
		if got := impl.Weekday(at); got != -1 {
			t.Errorf("Weekday(%d) is %d", at, got)
		}
		for _, form := range dateForms() {
			if got := form.write(at); got != "" {
				t.Errorf("%s(%d) is %q", form.name, at, got)
			}
		}
	}
}

func checkForms(t *testing.T, at int) {
	for _, form := range dateForms() {
		s := form.write(at)
		if s != form.wanted(at) {
			t.Errorf("%s(%d) is %q, not %q", form.name, at, s, form.wanted(at))
		}
		if s == "" {
			continue
		}
		if got, ok := form.read(s); !ok || got != at {
			t.Errorf("%q comes back as %d %v, not %d", s, got, ok, at)
		}
	}
}

func TestTimesComeBackAtEdges(t *testing.T) {
	for _, at := range edgeTimes() {
		checkForms(t, at)
	}
}

func TestTimesComeBackAllOver(t *testing.T) {
	// Steps that share nothing with a day meet all parts of days, months and years.
	for at := 0; at <= impl.MaxTime; at += 9876543 {
		checkForms(t, at)
	}
	for at := timeOf(2068, 12, 1, 0, 0, 0); at <= timeOf(2070, 2, 1, 0, 0, 0); at += 3601 {
		checkForms(t, at)
	}
}

func TestLaterStamps(t *testing.T) {
	for _, at := range edgeTimes() {
		for _, step := range []int{1, 59, 60, 3600, 86399, 86400, 2678400, 31622400} {
			if at+step > impl.MaxTime {
				continue
			}
			if a, b := impl.Stamp(at), impl.Stamp(at+step); a >= b {
				t.Errorf("the stamp %q of %d is not ahead of %q, %d seconds later", a, at, b, step)
			}
		}
	}
}

// checkRead holds a reader against the library's.
func checkRead(t *testing.T, form dateForm, s string) {
	want, is := form.timesIn(s)
	if got, ok := form.read(s); ok != is || got != want {
		t.Errorf("the reader of %s says %d %v of %q, not %d %v", form.name, got, ok, s, want, is)
	}
}

func TestChangedBytes(t *testing.T) {
	times := []int{0, 1583251521, timeOf(2000, 2, 29, 0, 0, 9), timeOf(2069, 12, 31, 23, 59, 59), timeOf(1999, 9, 30, 19, 9, 10), timeOf(2011, 11, 2, 20, 10, 0)}
	for _, at := range times {
		for _, form := range dateForms() {
			s := form.write(at)
			for i := range len(s) {
				for b := range 256 {
					checkRead(t, form, s[:i]+string([]byte{byte(b)})+s[i+1:])
				}
			}
		}
	}
}

func TestBytesTooManyOrTooFew(t *testing.T) {
	for _, at := range []int{0, 1583251521, timeOf(2012, 12, 12, 12, 12, 12)} {
		for _, form := range dateForms() {
			s := form.write(at)
			for i := range len(s) {
				checkRead(t, form, s[:i])
				checkRead(t, form, s[i+1:])
				checkRead(t, form, s[:i]+s[i+1:])
				for _, b := range []string{" ", "0", "1", ":", "-", "+", "\x00", "\n", "y", s[i : i+1]} {
					checkRead(t, form, s[:i]+b+s[i:])
					checkRead(t, form, s+b)
				}
			}
			checkRead(t, form, s+s)
			checkRead(t, form, strings.Repeat(s, 300))
		}
	}
}

func TestForeignForms(t *testing.T) {
	for _, at := range []int{0, 1583251521, timeOf(2069, 12, 31, 23, 59, 59)} {
		for _, own := range dateForms() {
			for _, other := range dateForms() {
				checkRead(t, own, other.write(at))
			}
		}
	}
	for _, form := range dateForms() {
		if got, ok := form.read(""); ok || got != 0 {
			t.Errorf("the reader of %s takes the empty text", form.name)
		}
	}
}

func TestWrongDates(t *testing.T) {
	forms := dateForms()
	wrong := [][]string{
		{
			"Wed, 03 Mar 2020 16:05:21 GMT", "tue, 03 mar 2020 16:05:21 gmt", "TUE, 03 MAR 2020 16:05:21 GMT", "Tue, 03 Mar 2020 16:05:21 gmt",
			"Tue, 3 Mar 2020 16:05:21 GMT", "Tue,  3 Mar 2020 16:05:21 GMT", "Tue, 03 Mar 20 16:05:21 GMT", "Tue, 03 Mar 2020 16:05:21 UTC",
			"Tue, 03 Mar 2020 16:05:21", "Tue, 03 Mar 2020 16:05:21 GMT ", " Tue, 03 Mar 2020 16:05:21 GMT", "Tue, 03 Mar 2020 24:00:00 GMT",
			"Tue, 03 Mar 2020 16:60:21 GMT", "Tue, 03 Mar 2020 16:05:60 GMT", "Tue, 00 Mar 2020 16:05:21 GMT", "Sat, 30 Feb 2020 16:05:21 GMT",
			"Wed, 31 Dec 1969 23:59:59 GMT", "Mon, 29 Feb 2100 00:00:00 GMT", "Tue, 03 Mrz 2020 16:05:21 GMT", "Tue, 03 Mar 2020 6:05:21 GMT",
			"Tue, 03 Mar 2020  6:05:21 GMT", "Sat, 01 Jan 10000 00:00:00 GMT", "Tue, 03-Mar-2020 16:05:21 GMT", "0", "Tue, +3 Mar 2020 16:05:21 GMT",
		},
		{
			"Wednesday, 03-Mar-20 16:05:21 GMT", "tuesday, 03-mar-20 16:05:21 gmt", "Tue, 03-Mar-20 16:05:21 GMT", "Tuesday, 3-Mar-20 16:05:21 GMT",
			"Tuesday,  3-Mar-20 16:05:21 GMT", "Tuesday, 03-Mar-2020 16:05:21 GMT", "Tuesday, 03 Mar 20 16:05:21 GMT", "Tuesday, 03-Mar- 2 16:05:21 GMT",
			"Tuesday, 03-Mar-20 16:05:21", ", 03-Mar-20 16:05:21 GMT", "Tuesday 03-Mar-20 16:05:21 GMT", "Monday, 29-Feb-21 00:00:00 GMT",
			"Tuesday, 03-Mar-20 24:05:21 GMT", "Wednesday, 31-Dec-69 23:59:59 GMT", "Wednesday, 01-Jan-70 00:00:00 GMT", "Tuesday, 00-Mar-20 16:05:21 GMT",
		},
		{
			"Wed Mar  3 16:05:21 2020", "tue mar  3 16:05:21 2020", "Tue Mar 03 16:05:21 2020", "Tue Mar 3 16:05:21 2020",
			"Tue Mar  3 16:05:21 20", "Tue Mar  0 16:05:21 2020", "Tue Mar  3 16:05:21 2020 GMT", "Tue Mar  3 16:05:21  020",
			"Tue Mar 3  16:05:21 2020", "Tue, Mar  3 16:05:21 2020", "Tue Feb 30 16:05:21 2020", "Tue Mar  3  6:05:21 2020", "Tue Mar  3 16:05:21 1969",
		},
		{
			"2020-03-03t16:05:21z", "2020-03-03T16:05:21", "2020-3-3T16:05:21Z", "2020-03-03 16:05:21Z", "2020-03-03T16:05:21+00:00", "2020-03-03T16:05:21.0Z",
			"2020-13-03T16:05:21Z", "2020-00-03T16:05:21Z", "2020-03-00T16:05:21Z", "2020-03-32T16:05:21Z", "2020-02-30T16:05:21Z", "2020-03-03T24:00:00Z",
			"2020-03-03T16:60:21Z", "2020-03-03T16:05:60Z", "1969-12-31T23:59:59Z", "0000-00-00T00:00:00Z", "2020- 3-03T16:05:21Z", "2020-03- 3T16:05:21Z",
			"2020/03/03T16:05:21Z", "2020-03-03T16-05-21Z", "10000-01-01T00:00:00Z",
		},
		{
			"2020030316052", "202003031605210", "2020 303160521", "202003 3160521", "20201303160521", "20200003160521", "20200300160521", "20200332160521",
			"20200230160521", "20200303240521", "20200303166021", "20200303160560", "19691231235959", "00000000000000", "2020030316052a", "+2020030316052",
			"2020-03-03T160", "-0200303160521", "2020030316052\x00", "２０２０",
		},
	}
	for i, list := range wrong {
		for _, s := range list {
			if got, ok := forms[i].read(s); ok || got != 0 {
				t.Errorf("the reader of %s takes %q as %d", forms[i].name, s, got)
			}
		}
	}
}

func TestNamesOfDaysAndMonths(t *testing.T) {
	days := []string{"Monday", "Tuesday", "Wednesday", "Thursday", "Friday", "Saturday", "Sunday"}
	months := []string{"Jan", "Feb", "Mar", "Apr", "May", "Jun", "Jul", "Aug", "Sep", "Oct", "Nov", "Dec"}
	for m, month := range months {
		for day := 1; day <= 28; day++ {
			at := timeOf(2021, m+1, day, 1, 2, 3)
			two, blanked := fmt.Sprintf("%02d", day), fmt.Sprintf("%2d", day)
			for d, name := range days {
				// The 1st of January 2021 is a Friday.
				is := (4+(at-timeOf(2021, 1, 1, 1, 2, 3))/86400)%7 == d
				checkNamed(t, name+", "+two+"-"+month+"-21 01:02:03 GMT", at, is)
				checkNamed(t, name[:3]+", "+two+" "+month+" 2021 01:02:03 GMT", at, is)
				checkNamed(t, name[:3]+" "+month+" "+blanked+" 01:02:03 2021", at, is)
			}
		}
	}
}

func checkNamed(t *testing.T, s string, at int, is bool) {
	got, ok := impl.ReadHttpDate(s)
	if ok != is || is && got != at || !is && got != 0 {
		t.Errorf("ReadHttpDate(%q) is %d %v", s, got, ok)
	}
}

func TestEveryTwoDigitsOfAYear(t *testing.T) {
	for two := range 100 {
		year := 1900 + two
		if two < 70 {
			year = 2000 + two
		}
		at := timeOf(year, 7, 4, 5, 6, 7)
		s := time.Unix(int64(at), 0).UTC().Format("Monday, 02-Jan-06 15:04:05 GMT")
		if got, ok := impl.ReadHttpDate(s); !ok || got != at {
			t.Errorf("%q is %d %v, not %d", s, got, ok, at)
		}
	}
}
