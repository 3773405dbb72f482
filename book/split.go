package book

import (
	"slices"

	"almanac/api"
	"almanac/clock"
	"almanac/rule"
)

// Split parts an event: from one of its rule's times on it is another event.
func (b *Book) Split(uid string, at api.Local, as string) error {
	e, err := b.event(uid)
	if err != nil {
		return err
	}
	if err := b.checkNew(as); err != nil {
		return err
	}
	if !e.Repeats {
		return api.ErrState
	}
	if b.isFull() {
		return api.ErrLimit
	}
	ahead, isTime := timesAhead(e, at)
	if !isTime || ahead == 0 {
		return api.ErrState
	}
	behind, err := behindOf(e, at, ahead)
	if err != nil {
		return err
	}
	behind.Uid = as
	if err := Check(behind); err != nil {
		return err
	}
	b.events[uid], b.events[as] = own(aheadOf(e, at)), own(behind)
	return nil
}

// checkNew says whether an event may be called so that is there by no call of Put.
func (b *Book) checkNew(uid string) error {
	if !Name(uid) {
		return api.ErrName
	}
	_, isThere := b.events[uid]
	_, was := b.dropped[uid]
	if isThere || was {
		return api.ErrExists
	}
	return nil
}

// timesAhead is how many of its rule's times are ahead of one; isTime: that is one of them, too.
func timesAhead(e api.Event, at api.Local) (n int, isTime bool) {
	// The rule was asked when the event was put here: it may be.
	times, _ := rule.All(e.Rule, e.Start)
	for t := range times {
		if t >= at {
			return n, t == at
		}
		n++
	}
	return n, false
}

// aheadOf is what an event is ahead of one of its rule's times.
func aheadOf(e api.Event, at api.Local) api.Event {
	e.Seq++
	e.Rule.Ends, e.Rule.Until, e.Rule.Count = true, at-1, 0
	e.Out, e.In = e.Out[:notAhead(e.Out, at)], e.In[:notAhead(e.In, at)]
	e.Others = e.Others[:othersAhead(e.Others, at)]
	return e
}

// behindOf is what an event is from one of its rule's times on, so many of which are ahead of that.
func behindOf(e api.Event, at api.Local, ahead int) (api.Event, error) {
	last, err := lastOf(e)
	if err != nil {
		return api.Event{}, err
	}
	e.Seq, e.Start = 0, at
	e.Rule.Ends, e.Rule.Until = true, last
	if e.Rule.Count != 0 {
		e.Rule.Count -= ahead
	}
	e.Out, e.In = e.Out[notAhead(e.Out, at):], e.In[notAhead(e.In, at):]
	e.Others = e.Others[othersAhead(e.Others, at):]
	return e, nil
}

// lastOf is the last time that an event's rule could have. (That of a rule that begins later could be later: so it is told that rule as its end.)
func lastOf(e api.Event) (api.Local, error) {
	day, _, err := clock.Split(e.Start)
	if err != nil {
		return 0, err
	}
	last, err := clock.Join(day+api.Horizon, api.Daily-1)
	if err != nil {
		return 0, err
	}
	if e.Rule.Ends {
		last = min(last, e.Rule.Until)
	}
	return last, nil
}

// notAhead is how many of some times, in order, are ahead of one.
func notAhead(l []api.Local, at api.Local) int {
	n, _ := slices.BinarySearch(l, at)
	return n
}

// othersAhead is likewise of what is other at some times.
func othersAhead(l []api.Other, at api.Local) int {
	n := 0
	for n < len(l) && l[n].At < at {
		n++
	}
	return n
}
