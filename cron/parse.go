package cron

import (
	"strings"

	"almanac/api"
)

// fault is with what a reader gives up.
type fault struct{ err api.Errno }

func giveUp(err api.Errno) { panic(fault{err}) }

// Parse reads five words: minutes, hours, days of a month, months, days of a week.
func Parse(text string) (api.Cron, error) {
	if len(text) > api.MaxText {
		return api.Cron{}, api.ErrLimit
	}
	var c api.Cron
	readers := readersOf(&c)
	words := strings.Split(text, " ")
	if len(words) != len(readers) {
		return api.Cron{}, api.ErrForm
	}
	place := 0
	for i, read := range readers {
		if err := faultOf(read, words[i]); err != api.OK {
			return api.Cron{}, &api.At{Err: err, Place: place}
		}
		place += len(words[i]) + 1
	}
	return c, nil
}

// faultOf lets a reader read a word, and tells with what it gave up.
func faultOf(read func(word string), word string) (err api.Errno) {
	defer func() {
		x := recover()
		if x == nil {
			return
		}
		f, ok := x.(fault)
		if !ok {
			// No reader gave up so: it is a fault of the program, which is not to be hidden.
			panic(x)
		}
		err = f.err
	}()
	read(word)
	return api.OK
}

// readersOf are the readers of the five words, in their order.
func readersOf(c *api.Cron) [5]func(word string) {
	return [5]func(word string){
		func(word string) { c.Minutes = minutes.list(word, noOther) },
		func(word string) { c.Hours = hours.list(word, noOther) },
		func(word string) { readDays(c, word) },
		func(word string) { c.Months = months.list(word, noOther) },
		func(word string) { readWeekdays(c, word) },
	}
}

// readDays reads the days of a month.
func readDays(c *api.Cron, word string) {
	if word == "*" {
		c.Any = true
		return
	}
	var near set
	c.Days = monthDays.list(word, func(item string) bool {
		if item == "L" {
			c.Last = true
			return true
		}
		day, ok := strings.CutSuffix(item, "W")
		if ok {
			near.add(monthDays.number(day))
		}
		return ok
	})
	c.Near = near.list()
}

// readWeekdays reads the days of a week.
func readWeekdays(c *api.Cron, word string) {
	if word == "*" {
		c.AnyWeek = true
		return
	}
	var last set
	var nth [7]set // of each weekday
	c.Weekdays = weekdays.list(word, func(item string) bool {
		if day, ok := strings.CutSuffix(item, "L"); ok {
			last.add(weekdays.number(day))
			return true
		}
		day, place, ok := strings.Cut(item, "#")
		if ok {
			weekday := weekdays.number(day)
			nth[weekday-1].add(places.number(place))
		}
		return ok
	})
	c.LastOf = last.list()
	for i, s := range nth {
		for _, n := range s.list() {
			c.Nth = append(c.Nth, api.Nth{N: n, Day: i + 1})
		}
	}
}

// noOther is for words that have no items but those that all words may have.
func noOther(string) bool { return false }

// list reads a word: the numbers that its items tell. other reads an item without a step, if it is one that only such a word may have.
func (k kind) list(word string, other func(item string) bool) []int {
	var s set
	for _, item := range strings.Split(word, ",") {
		item, step, stepped := strings.Cut(item, "/")
		by := 1
		if stepped {
			by = steps.number(step)
		} else if other(item) {
			continue
		}
		from, to := k.bounds(item, stepped)
		for n := from; n <= to; n += by {
			s.add(n)
		}
	}
	return s.list()
}

// bounds reads an item, without its step: from which number on it goes, up to which one, which is of it.
func (k kind) bounds(item string, stepped bool) (from, to int) {
	if item == "*" {
		return k.least, k.most
	}
	first, last, ok := strings.Cut(item, "-")
	from = k.number(first)
	switch {
	case ok:
		to = k.number(last)
	case stepped:
		to = k.most
	default:
		to = from
	}
	if from > to {
		giveUp(api.ErrOrder)
	}
	return from, to
}

// set has some of the numbers from 0 to 63, a bit each.
type set uint64

func (s *set) add(n int) { *s |= 1 << n }

// list are the numbers of the set; they rise.
func (s set) list() []int {
	var l []int
	for n := range 64 {
		if s>>n&1 == 1 {
			l = append(l, n)
		}
	}
	return l
}
