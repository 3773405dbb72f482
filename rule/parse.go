package rule

import (
	"slices"
	"strconv"
	"strings"

	"almanac/api"
	"almanac/clock"
)

// Parse reads a rule: its parts may stand in any order, each once.
func Parse(text string) (api.Rule, error) {
	if len(text) > api.MaxText {
		return api.Rule{}, api.ErrLimit
	}
	r := api.Rule{Cal: api.Gregorian, Every: 1, First: 1}
	var names []string
	at := 0
	for _, part := range strings.Split(text, ";") {
		name, err := readPart(&r, part, names)
		if err != nil {
			return api.Rule{}, &api.At{Err: api.Tell(err), Place: at}
		}
		names = append(names, name)
		at += len(part) + 1
	}
	if !slices.Contains(names, "FREQ") {
		return api.Rule{}, &api.At{Err: api.ErrMissing, Place: len(text)}
	}
	if err := Check(r); err != nil {
		return api.Rule{}, err
	}
	return r, nil
}

// readPart reads a part, and tells its name; ahead are the names of those ahead of it.
func readPart(r *api.Rule, part string, ahead []string) (string, error) {
	name, value, ok := strings.Cut(part, "=")
	if !ok {
		return "", api.ErrForm
	}
	if slices.Contains(ahead, name) {
		return "", api.ErrExists
	}
	return name, readValue(r, name, value)
}

// readValue reads what stands behind a part's name.
func readValue(r *api.Rule, name, value string) error {
	var err error
	switch name {
	case "RSCALE":
		r.Cal = api.Cal(named(calendars, value))
		if r.Cal == 0 {
			err = api.ErrCal
		}
	case "FREQ":
		r.Freq, err = readName(frequencies, value)
	case "INTERVAL":
		r.Every, err = readNumber(value)
	case "COUNT":
		r.Count, err = readNumber(value)
		if err == nil && r.Count == 0 {
			err = api.ErrArg
		}
	case "UNTIL":
		r.Ends = true
		r.Until, err = readTime(value)
	case "BYDAY":
		r.Days, err = readDays(value)
	case "WKST":
		r.First, err = readName(weekdays, value)
	default:
		list, ok := listsOf(r)[name]
		if !ok {
			return api.ErrName
		}
		*list, err = readNumbers(value)
	}
	return err
}

// readName reads one of some names.
func readName(names, text string) (int, error) {
	n := named(names, text)
	if n == 0 {
		return 0, api.ErrForm
	}
	return n, nil
}

// readNumber reads a number.
func readNumber(text string) (int, error) {
	const most = 6
	n, err := strconv.Atoi(text)
	// What is written otherwise has a + or a nought ahead.
	if err != nil || len(text) > most || strconv.Itoa(n) != text {
		return 0, api.ErrForm
	}
	return n, nil
}

// readNumbers reads a list of numbers.
func readNumbers(text string) ([]int, error) {
	var l []int
	for _, item := range strings.Split(text, ",") {
		n, err := readNumber(item)
		if err != nil {
			return nil, err
		}
		l = append(l, n)
	}
	return l, nil
}

// readTime reads a time that has no zone.
func readTime(text string) (api.Local, error) {
	s, err := clock.Parse(text)
	if err == nil && s.Zone != api.NoZone {
		err = api.ErrForm
	}
	return s.Local, err
}

// readDays reads a list of weekdays, each with a number ahead or without one.
func readDays(text string) ([]api.Nth, error) {
	var l []api.Nth
	nought := false
	for _, item := range strings.Split(text, ",") {
		long := max(0, len(item)-2)
		weekday, err := readName(weekdays, item[long:])
		if err != nil {
			return nil, err
		}
		d := api.Nth{Day: weekday}
		if long > 0 {
			if d.N, err = readNumber(item[:long]); err != nil {
				return nil, err
			}
			nought = nought || d.N == 0
		}
		l = append(l, d)
	}
	// Of a part what is not of the form is told ahead of this, wherever it stands.
	if nought {
		return nil, api.ErrArg
	}
	return l, nil
}
