package zone

import (
	"math"
	"strings"

	"almanac/api"
	"almanac/days"
)

// line is read word by word, from the left on, up to its first fault.
type line struct {
	words []string
	err   error
}

// next reads a line's next word, but for those behind a fault.
func next[T any](l *line, read func(word string) (T, error)) T {
	var v T
	word := l.words[0]
	l.words = l.words[1:]
	if l.err == nil {
		v, l.err = read(word)
	}
	return v
}

// ruleOf reads the words of a rule behind the first one.
func ruleOf(words []string) (rule, error) {
	l := line{words: words}
	var r rule
	r.name = next(&l, nameOf)
	r.from = next(&l, numberFrom(1, api.LastYear))
	r.to = next(&l, yearFrom(r.from))
	r.month = next(&l, numberFrom(1, 12))
	r.monthDay = next(&l, monthDayOf)
	r.dayTime = next(&l, dayTimeOf)
	r.save = next(&l, offsetOf)
	return r, l.err
}

// eraOf reads the words of an era behind the first one.
func eraOf(words []string) (era, error) {
	l := line{words: words}
	var e era
	e.offset = next(&l, offsetOf)
	e.rules = next(&l, rulesOf)
	e.ends = len(l.words) > 0
	if e.ends {
		l.words = l.words[1:] // until
		year := next(&l, numberFrom(1, api.LastYear))
		month := next(&l, numberFrom(1, 12))
		day := next(&l, dayIn(year, month))
		e.until.dayTime = next(&l, dayTimeOf)
		e.until.shown = e.until.on(day)
	}
	return e, l.err
}

// nameOf reads the name of rules.
func nameOf(word string) (string, error) {
	if len(word) > 20 {
		return "", api.ErrName
	}
	for i := range len(word) {
		if !isLetter(word[i]) {
			return "", api.ErrName
		}
	}
	// A piece of the text would keep all of it.
	return strings.Clone(word), nil
}

// rulesOf reads what rules an era has. Whether there are such is asked later.
func rulesOf(word string) (string, error) { return strings.Clone(word), nil }

// yearFrom reads a rule's last year, where this is its first one.
func yearFrom(from int) func(string) (int, error) {
	return func(word string) (int, error) {
		switch word {
		case "only":
			return from, nil
		case "max":
			return api.LastYear, nil
		}
		to, err := number(word, 1, api.LastYear)
		if err == nil && to < from {
			err = api.ErrOrder
		}
		return to, err
	}
}

// dayIn reads a day of a month.
func dayIn(year, month int) func(string) (int, error) {
	return func(word string) (int, error) {
		day, err := number(word, 1, 31)
		if err != nil {
			return 0, err
		}
		return days.Day(api.Date{Cal: api.Gregorian, Year: year, Month: month, Day: day})
	}
}

// monthDayOf reads on which day of its month a rule turns.
func monthDayOf(word string) (monthDay, error) {
	if weekday, ok := strings.CutPrefix(word, "last"); ok {
		n, err := number(weekday, 1, 7)
		return monthDay{weekday: n, back: true}, err
	}
	if weekday, day, ok := strings.Cut(word, ">="); ok {
		return weekdayBy(weekday, day, false)
	}
	if weekday, day, ok := strings.Cut(word, "<="); ok {
		return weekdayBy(weekday, day, true)
	}
	n, err := number(word, 1, 28)
	return monthDay{day: n}, err
}

// weekdayBy reads a weekday, and the day from which on, or back, it is looked for.
func weekdayBy(weekday, day string, back bool) (monthDay, error) {
	w, err := number(weekday, 1, 7)
	if err != nil {
		return monthDay{}, err
	}
	d, err := number(day, 1, 28)
	return monthDay{day: d, weekday: w, back: back}, err
}

// dayTimeOf reads a time of a day.
func dayTimeOf(word string) (dayTime, error) {
	if len(word) != 6 {
		return dayTime{}, api.ErrForm
	}
	hour, minute, err := hourAndMinute(word[:5])
	if err != nil {
		return dayTime{}, err
	}
	meant := word[5]
	if meant != wall && meant != standard && meant != universal {
		return dayTime{}, api.ErrForm
	}
	second := seconds(hour, minute)
	if second > api.Daily || minute > 59 {
		return dayTime{}, api.ErrDate
	}
	return dayTime{second: second, meant: meant}, nil
}

// offsetOf reads an offset, or what is saved.
func offsetOf(word string) (int, error) {
	if len(word) != 6 || word[0] != '+' && word[0] != '-' {
		return 0, api.ErrForm
	}
	hour, minute, err := hourAndMinute(word[1:])
	if err != nil {
		return 0, err
	}
	if hour > 23 || minute > 59 {
		return 0, api.ErrForm
	}
	if word[0] == '-' {
		return -seconds(hour, minute), nil
	}
	return seconds(hour, minute), nil
}

// hourAndMinute reads five bytes: two digits, a : and two digits.
func hourAndMinute(text string) (hour, minute int, err error) {
	for i := range len(text) {
		if isDigit(text[i]) == (i == 2) || i == 2 && text[i] != ':' {
			return 0, 0, api.ErrForm
		}
	}
	return twoDigits(text[:2]), twoDigits(text[3:]), nil
}

func twoDigits(text string) int { return 10*int(text[0]-'0') + int(text[1]-'0') }

func seconds(hour, minute int) int { return 60 * (60*hour + minute) }

func isLetter(b byte) bool { return b >= 'A' && b <= 'Z' || b >= 'a' && b <= 'z' }

func isDigit(b byte) bool { return b >= '0' && b <= '9' }

// numberFrom reads a number from least to most.
func numberFrom(least, most int) func(string) (int, error) {
	return func(word string) (int, error) { return number(word, least, most) }
}

// number reads a number from least to most.
func number(word string, least, most int) (int, error) {
	digits, below := strings.CutPrefix(word, "-")
	if digits == "" || digits[0] == '0' && (below || len(digits) > 1) {
		return 0, api.ErrForm
	}
	n := 0
	for i := range len(digits) {
		if !isDigit(digits[i]) {
			return 0, api.ErrForm
		}
		// A number may have as many digits as a text: those that are too great stay too great.
		n = min(10*n+int(digits[i]-'0'), math.MaxInt32)
	}
	if below {
		n = -n
	}
	if n < least || n > most {
		return 0, api.ErrRange
	}
	return n, nil
}
