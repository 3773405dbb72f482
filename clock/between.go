package clock

import (
	"errors"
	"strings"

	"almanac/api"
)

// ParseSpan reads a span: two times, or a time and a period, with a / between; from and to.
func ParseSpan(text string) (from, to api.Local, err error) {
	first, second, found := strings.Cut(text, "/")
	if !found {
		return 0, 0, &api.At{Err: api.ErrForm, Place: len(text)}
	}
	// inText has the place of what is wrong with the second one as a place of the text.
	inText := func(err error) error {
		var at *api.At
		if errors.As(err, &at) {
			return &api.At{Err: at.Err, Place: len(first) + 1 + at.Place}
		}
		return err
	}
	switch {
	case isPeriod(first):
		from, to, err = upTo(first, second, inText)
	case isPeriod(second):
		from, to, err = fromOn(first, second, inText)
	default:
		from, to, err = fromTo(first, second, inText)
	}
	if err == nil && to < from {
		err = api.ErrOrder
	}
	if err != nil {
		return 0, 0, err
	}
	return from, to, nil
}

// isPeriod says whether a part of a span is to be read as a period.
func isPeriod(text string) bool { return strings.HasPrefix(text, "P") }

// upTo reads a period and the time with which it ends.
func upTo(first, second string, inText func(error) error) (from, to api.Local, err error) {
	p, err := ParsePeriod(first)
	if err != nil {
		return 0, 0, err
	}
	if to, err = parseTime(second); err != nil {
		return 0, 0, inText(err)
	}
	from, err = Add(to, turned(p))
	return from, to, err
}

// fromOn reads a time and the period that begins with it.
func fromOn(first, second string, inText func(error) error) (from, to api.Local, err error) {
	if from, err = parseTime(first); err != nil {
		return 0, 0, err
	}
	p, err := ParsePeriod(second)
	if err != nil {
		return 0, 0, inText(err)
	}
	to, err = Add(from, p)
	return from, to, err
}

// fromTo reads two times.
func fromTo(first, second string, inText func(error) error) (from, to api.Local, err error) {
	if from, err = parseTime(first); err != nil {
		return 0, 0, err
	}
	if to, err = parseTime(second); err != nil {
		return 0, 0, inText(err)
	}
	return from, to, nil
}

// parseTime reads a stamp that tells no zone.
func parseTime(text string) (api.Local, error) {
	s, err := Parse(text)
	if err != nil {
		return 0, err
	}
	if s.Zone != api.NoZone {
		return 0, &api.At{Err: api.ErrForm, Place: len(text)}
	}
	return s.Local, nil
}
