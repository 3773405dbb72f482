package days_test

import (
	"fmt"
	"testing"

	"almanac/api"
	"almanac/days"
)

// model is a calendar as the document's table tells it, by which the program is judged.
type model struct {
	cal   api.Cal
	first int // the day with which year 1 begins
	leap  func(y int) bool
	year  func(y int) []int // how long its months are
}

func gregorianLeap(y int) bool {
	return left(y, 4) == 0 && (left(y, 100) != 0 || left(y, 400) == 0)
}

// months are lengths, with one that is a day longer in leap years.
func months(leap func(int) bool, longer int, lengths ...int) func(int) []int {
	return func(y int) []int {
		l := append([]int(nil), lengths...)
		if leap(y) {
			l[longer-1]++
		}
		return l
	}
}

func models() []model {
	julian := func(y int) bool { return left(y, 4) == 0 }
	coptic := func(y int) bool { return left(y, 4) == 3 }
	islamic := func(y int) bool { return left(14+11*y, 30) < 11 }
	persian := func(y int) bool { return left((left(y-474, 2820)+512)*682, 2816) < 682 }
	saka := func(y int) bool { return gregorianLeap(y + 78) }
	french := func(y int) bool { return gregorianLeap(y) && left(y, 4000) != 0 }
	never := func(int) bool { return false }
	roman := []int{31, 28, 31, 30, 31, 30, 31, 31, 30, 31, 30, 31}
	nile := []int{30, 30, 30, 30, 30, 30, 30, 30, 30, 30, 30, 30, 5}
	return []model{
		{api.Gregorian, -719162, gregorianLeap, months(gregorianLeap, 2, roman...)},
		{api.Julian, -719164, julian, months(julian, 2, roman...)},
		{api.Coptic, -615558, coptic, months(coptic, 13, nile...)},
		{api.Ethiopic, -716367, coptic, months(coptic, 13, nile...)},
		{api.Islamic, -492148, islamic, months(islamic, 12, 30, 29, 30, 29, 30, 29, 30, 29, 30, 29, 30, 29)},
		{api.Persian, -492267, persian, months(persian, 12, 31, 31, 31, 31, 31, 31, 30, 30, 30, 30, 30, 29)},
		{api.Hebrew, -2092590, hebrewLeap, hebrewMonths},
		{api.Saka, -690593, saka, months(saka, 1, 30, 31, 31, 31, 31, 31, 30, 30, 30, 30, 30, 30)},
		{api.French, -64748, french, months(french, 13, nile...)},
		{api.Egyptian, -991950, never, months(never, 13, nile...)},
	}
}

func hebrewLeap(y int) bool { return left(7*y+1, 19) < 7 }

// hebrewNewYear reckons otherwise than the document: by the moon's conjunction, and the four rules that put the new year off.
func hebrewNewYear(y int) int {
	moons := down(235*y-234, 19)
	parts := 204 + 793*left(moons, 1080)
	hours := 5 + 12*moons + 793*down(moons, 1080) + down(parts, 1080)
	day := 1 + 29*moons + down(hours, 24)
	of := 1080*left(hours, 24) + left(parts, 1080)
	weekday := left(day, 7) // Sunday is 0
	if of >= 19440 || weekday == 2 && of >= 9924 && !hebrewLeap(y) || weekday == 1 && of >= 16789 && hebrewLeap(y-1) {
		day++
	}
	if w := left(day, 7); w == 0 || w == 3 || w == 5 {
		day++
	}
	return day
}

func hebrewMonths(y int) []int {
	l := []int{30, 29, 30, 29, 30, 29, 30, 29, 30, 29, 30, 29}
	switch hebrewNewYear(y+1) - hebrewNewYear(y) {
	case 355, 385:
		l[1] = 30
	case 353, 383:
		l[2] = 29
	}
	if hebrewLeap(y) {
		l = append(l[:5:5], append([]int{30}, l[5:]...)...)
	}
	return l
}

func sum(l []int) int {
	n := 0
	for _, x := range l {
		n += x
	}
	return n
}

// checkYear holds a year that begins on start against its model: what is told of it, and the first and last day of each month.
func (m model) checkYear(t *testing.T, y, start int) {
	leap, err := days.Leap(m.cal, y)
	wantValue(t, at("1.2: Leap(%d, %d)", m.cal, y), leap, err, m.leap(y))
	lengths := m.year(y)
	n, err := days.Months(m.cal, y)
	wantValue(t, at("1.2: Months(%d, %d)", m.cal, y), n, err, len(lengths))
	for i, want := range lengths {
		long, err := days.Length(m.cal, y, i+1)
		wantValue(t, at("1.2: Length(%d, %d, %d)", m.cal, y, i+1), long, err, want)
		m.checkDate(t, api.Date{Cal: m.cal, Year: y, Month: i + 1, Day: 1}, start)
		start += want
		m.checkDate(t, api.Date{Cal: m.cal, Year: y, Month: i + 1, Day: want}, start-1)
	}
}

// checkDate asks for a date's day, and for the day's date.
func (m model) checkDate(t *testing.T, d api.Date, day int) {
	got, err := days.Day(d)
	if day < -api.MaxDay || day > api.MaxDay {
		wantError(t, at("1.4: Day(%v)", d), got, err, api.ErrRange)
		return
	}
	wantValue(t, at("1.4: Day(%v)", d), got, err, day)
	back, err := days.Of(m.cal, day)
	wantValue(t, at("1.4: Of(%d, %d)", m.cal, day), back, err, d)
}

// TestYears walks over all years there are, to both sides of year 1.
func TestYears(t *testing.T) {
	for _, m := range models() {
		t.Run(fmt.Sprint(m.cal), func(t *testing.T) {
			t.Parallel()
			start := m.first
			for y := 1; y <= api.MaxYear && !t.Failed(); y++ {
				m.checkYear(t, y, start)
				start += sum(m.year(y))
			}
			start = m.first
			for y := 0; y >= -api.MaxYear && !t.Failed(); y-- {
				start -= sum(m.year(y))
				m.checkYear(t, y, start)
			}
		})
	}
}

// length is how long a month is that must be there.
func length(t *testing.T, c api.Cal, year, month int) int {
	t.Helper()
	n, err := days.Length(c, year, month)
	if err != nil {
		t.Fatalf("Length(%d, %d, %d): %v", c, year, month, err)
	}
	return n
}

// monthsOf is how many months a year has that must be there.
func monthsOf(t *testing.T, c api.Cal, year int) int {
	t.Helper()
	n, err := days.Months(c, year)
	if err != nil {
		t.Fatalf("Months(%d, %d): %v", c, year, err)
	}
	return n
}

// nextDate is the date of the next day.
func nextDate(t *testing.T, d api.Date) api.Date {
	t.Helper()
	switch {
	case d.Day < length(t, d.Cal, d.Year, d.Month):
		d.Day++
	case d.Month < monthsOf(t, d.Cal, d.Year):
		d.Month, d.Day = d.Month+1, 1
	default:
		d.Year, d.Month, d.Day = d.Year+1, 1, 1
	}
	return d
}

// lastDate is the date of the day ahead.
func lastDate(t *testing.T, d api.Date) api.Date {
	t.Helper()
	switch {
	case d.Day > 1:
		d.Day--
		return d
	case d.Month > 1:
		d.Month--
	default:
		d.Year, d.Month = d.Year-1, monthsOf(t, d.Cal, d.Year-1)
	}
	d.Day = length(t, d.Cal, d.Year, d.Month)
	return d
}

// TestFollow goes from day to day, over some stretches: the ends of all days, the years about 0, our own.
func TestFollow(t *testing.T) {
	stretches := [][2]int{{-api.MaxDay, -api.MaxDay + 3000}, {-721000, -717000}, {-66000, -62000}, {17000, 23000}, {api.MaxDay - 3000, api.MaxDay}}
	for _, c := range allCalendars {
		for _, s := range stretches {
			last, err := days.Of(c, s[0])
			if err != nil {
				t.Fatal(err)
			}
			for day := s[0] + 1; day <= s[1]; day++ {
				d, err := days.Of(c, day)
				wantValue(t, at("1.4: Of(%d, %d)", c, day), d, err, nextDate(t, last))
				n, err := days.Day(d)
				wantValue(t, at("1.4: Day(%v)", d), n, err, day)
				last = d
			}
		}
	}
}

// TestKnownDates has dates that are told elsewhere.
func TestKnownDates(t *testing.T) {
	for _, k := range []struct {
		day  int
		date api.Date
	}{
		{0, api.Date{Cal: api.Gregorian, Year: 1970, Month: 1, Day: 1}},
		{11016, api.Date{Cal: api.Gregorian, Year: 2000, Month: 2, Day: 29}},
		{19999, api.Date{Cal: api.Gregorian, Year: 2024, Month: 10, Day: 3}},
		{19999, api.Date{Cal: api.Julian, Year: 2024, Month: 9, Day: 20}},
		{19999, api.Date{Cal: api.Coptic, Year: 1741, Month: 1, Day: 23}},
		{19999, api.Date{Cal: api.Hebrew, Year: 5785, Month: 1, Day: 1}},
		{19981, api.Date{Cal: api.Hebrew, Year: 5784, Month: 13, Day: 12}},
		{19836, api.Date{Cal: api.Hebrew, Year: 5784, Month: 8, Day: 15}},
		{20191, api.Date{Cal: api.Hebrew, Year: 5785, Month: 7, Day: 15}},
		{-141428, api.Date{Cal: api.Julian, Year: 1582, Month: 10, Day: 4}},
		{-141427, api.Date{Cal: api.Gregorian, Year: 1582, Month: 10, Day: 15}},
		{13768, api.Date{Cal: api.Ethiopic, Year: 2000, Month: 1, Day: 1}},
		{-4668, api.Date{Cal: api.Saka, Year: 1879, Month: 1, Day: 1}},
		{-64075, api.Date{Cal: api.French, Year: 2, Month: 11, Day: 9}},
		{-933356, api.Date{Cal: api.Gregorian, Year: -586, Month: 7, Day: 24}},
		{-933356, api.Date{Cal: api.Julian, Year: -586, Month: 7, Day: 30}},
		{-933356, api.Date{Cal: api.Coptic, Year: -870, Month: 12, Day: 6}},
		{-933356, api.Date{Cal: api.Ethiopic, Year: -594, Month: 12, Day: 6}},
		{-933356, api.Date{Cal: api.Islamic, Year: -1245, Month: 12, Day: 9}},
		{-933356, api.Date{Cal: api.Persian, Year: -1207, Month: 5, Day: 1}},
		{-933356, api.Date{Cal: api.Hebrew, Year: 3174, Month: 11, Day: 10}},
		{-933356, api.Date{Cal: api.Egyptian, Year: 161, Month: 7, Day: 15}},
	} {
		n, err := days.Day(k.date)
		wantValue(t, at("1.2: Day(%v)", k.date), n, err, k.day)
		d, err := days.Of(k.date.Cal, k.day)
		wantValue(t, at("1.2: Of(%d, %d)", k.date.Cal, k.day), d, err, k.date)
	}
}

// TestHebrewYears: new years on the days that are told elsewhere, and the lengths of years that none but the rules of 1.3 give.
func TestHebrewYears(t *testing.T) {
	for year, want := range map[int][3]int{
		5745: {1984, 9, 27}, 5766: {2005, 10, 4}, 5780: {2019, 9, 30}, 5781: {2020, 9, 19}, 5782: {2021, 9, 7},
		5783: {2022, 9, 26}, 5784: {2023, 9, 16}, 5785: {2024, 10, 3}, 5786: {2025, 9, 23}, 5787: {2026, 9, 12},
	} {
		day := mustDay(t, api.Gregorian, want[0], want[1], want[2])
		got := mustDay(t, api.Hebrew, year, 1, 1)
		wantValue(t, at("1.3: the first day of %d", year), got, nil, day)
	}
	seen := map[int]bool{}
	for y := -5000; y <= 16000; y++ {
		start := mustDay(t, api.Hebrew, y, 1, 1)
		seen[mustDay(t, api.Hebrew, y+1, 1, 1)-start] = true
		if w := days.Weekday(start); w == 3 || w == 5 || w == 7 {
			t.Errorf("1.3: year %d begins on weekday %d", y, w)
		}
	}
	for _, n := range []int{353, 354, 355, 383, 384, 385} {
		if !seen[n] || len(seen) != 6 {
			t.Errorf("1.3: years have %v days", seen)
		}
	}
}

// TestFaults: wrong calendars, years, months and days, and which of several faults is told.
func TestFaults(t *testing.T) {
	for _, c := range noCalendars {
		for _, y := range append([]int{2024}, noYears...) {
			checkYearFaults(t, c, y, 0, api.ErrCal)
		}
		for _, day := range append([]int{0}, noDays...) {
			d, err := days.Of(c, day)
			wantError(t, at("1.4: Of(%d, %d)", c, day), d, err, api.ErrCal)
		}
	}
	for _, c := range allCalendars {
		for _, y := range noYears {
			checkYearFaults(t, c, y, 0, api.ErrRange)
		}
		for _, day := range noDays {
			d, err := days.Of(c, day)
			wantError(t, at("1.1: Of(%d, %d)", c, day), d, err, api.ErrRange)
		}
	}
}

func checkYearFaults(t *testing.T, c api.Cal, y, month int, want api.Errno) {
	t.Helper()
	leap, err := days.Leap(c, y)
	wantError(t, at("1.4: Leap(%d, %d)", c, y), leap, err, want)
	n, err := days.Months(c, y)
	wantError(t, at("1.4: Months(%d, %d)", c, y), n, err, want)
	n, err = days.Length(c, y, month)
	wantError(t, at("1.4: Length(%d, %d, %d)", c, y, month), n, err, want)
	n, err = days.Day(api.Date{Cal: c, Year: y, Month: month})
	wantError(t, at("1.4: Day(%d, %d, %d)", c, y, month), n, err, want)
}

// TestNoSuchDate: months and days that a year has not; of a year whose days are not there, too.
func TestNoSuchDate(t *testing.T) {
	for _, m := range models() {
		for _, y := range []int{-api.MaxYear, -1, 0, 1, 2023, 2024, 5784, 5785, api.MaxYear} {
			lengths := m.year(y)
			for _, month := range []int{-1 << 63, -1, 0, len(lengths) + 1, 1<<63 - 1} {
				n, err := days.Length(m.cal, y, month)
				wantError(t, at("1.4: Length(%d, %d, %d)", m.cal, y, month), n, err, api.ErrDate)
				n, err = days.Day(api.Date{Cal: m.cal, Year: y, Month: month, Day: 1})
				wantError(t, at("1.4: Day(%d, %d, %d, 1)", m.cal, y, month), n, err, api.ErrDate)
			}
			for i, long := range lengths {
				for _, day := range []int{-1 << 63, -1, 0, long + 1, 1<<63 - 1} {
					n, err := days.Day(api.Date{Cal: m.cal, Year: y, Month: i + 1, Day: day})
					wantError(t, at("1.4: Day(%d, %d, %d, %d)", m.cal, y, i+1, day), n, err, api.ErrDate)
				}
			}
		}
	}
}

// TestEnds: the first and the last day there are, and the dates next to them.
func TestEnds(t *testing.T) {
	for _, c := range allCalendars {
		for _, end := range []int{-api.MaxDay, api.MaxDay} {
			d, err := days.Of(c, end)
			if err != nil {
				t.Fatalf("1.1: Of(%d, %d): %v", c, end, err)
			}
			n, err := days.Day(d)
			wantValue(t, at("1.1: Day(%v)", d), n, err, end)
			if end < 0 {
				d = lastDate(t, d)
			} else {
				d = nextDate(t, d)
			}
			n, err = days.Day(d)
			wantError(t, at("1.1: Day(%v)", d), n, err, api.ErrRange)
		}
		for _, y := range []int{-api.MaxYear, api.MaxYear} {
			n, err := days.Day(api.Date{Cal: c, Year: y, Month: 1, Day: 1})
			wantError(t, at("1.4: Day(%d, %d-1-1)", c, y), n, err, api.ErrRange)
		}
	}
}
