package book

import (
	"slices"

	"almanac/api"
	"almanac/rule"
)

// Has says whether an event has a time.
func (b *Book) Has(uid string, at api.Local) (bool, error) {
	e, err := b.event(uid)
	if err != nil {
		return false, err
	}
	// No event has a time that is not there; and behind one that is there is room for another number.
	return checkTime(at) == nil && hasTime(e, at), nil
}

// hasTime says whether an event has a time.
func hasTime(e api.Event, at api.Local) bool { return len(timesOf(e, at, at+1)) > 0 }

// timesOf are those of an event from one on, up to another one, in order.
func timesOf(e api.Event, from, to api.Local) []api.Local {
	isAsked := func(t api.Local) bool { return t >= from && t < to }
	isOut := func(t api.Local) bool { return slices.Contains(e.Out, t) }
	var l []api.Local
	if e.Repeats {
		// The rule was asked when the event was put here: it may be.
		l, _ = rule.Between(e.Rule, e.Start, from, to)
	} else if isAsked(e.Start) {
		l = append(l, e.Start)
	}
	for _, t := range e.In {
		if isAsked(t) {
			l = append(l, t)
		}
	}
	slices.Sort(l)
	return slices.DeleteFunc(slices.Compact(l), isOut)
}

// ended is an event whose rule ends with the last of its times, if they are counted: so whoever asks it often need not count from its start on each time.
func ended(e api.Event) api.Event {
	if e.Rule.Count == 0 {
		return e
	}
	times, _ := rule.All(e.Rule, e.Start)
	count := 0
	for t := range times {
		if count++; count == e.Rule.Count {
			e.Rule.Ends, e.Rule.Until = true, t
		}
	}
	e.Rule.Count = 0
	return e
}
