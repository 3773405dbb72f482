package desk

import (
	"slices"

	"almanac/api"
	"almanac/busy"
	"almanac/clock"
)

// meet tells when one can meet others: how long and how often it may begin, between which times, with whom.
func (h *house) meet(periods, times, names []string) ([]string, error) {
	want, err := h.want(periods, times)
	if err != nil {
		return nil, err
	}
	people, err := h.gather(names)
	if err != nil {
		return nil, err
	}
	for i := range people {
		want.Must = append(want.Must, i)
	}
	// Ahead of the books, since these have nothing to tell of such times.
	if err := busy.Check(want, len(people)); err != nil {
		return nil, err
	}
	var taken []busy.Set
	for _, p := range people {
		s, err := busy.Of(p.book, want.From, want.To)
		if err != nil {
			return nil, err
		}
		taken = append(taken, s)
	}
	slot, err := busy.Find(want, taken, nil)
	if err != nil {
		return nil, err
	}
	return []string{h.shown(slot.At)}, nil
}

// want is a meeting that is looked for, with nobody yet.
func (h *house) want(periods, times []string) (w api.Want, err error) {
	var read [2]api.Period
	for i := range read {
		p, err := clock.ParsePeriod(periods[i])
		if err != nil {
			return api.Want{}, err
		}
		read[i] = p
	}
	if w.From, w.To, err = h.moments(times[0], times[1]); err != nil {
		return api.Want{}, err
	}
	if w.Length, err = secondsOf(read[0]); err != nil {
		return api.Want{}, err
	}
	if w.Step, err = secondsOf(read[1]); err != nil {
		return api.Want{}, err
	}
	if w.To-w.From > api.MaxWindow {
		return api.Want{}, api.ErrLimit
	}
	return w, nil
}

// gather is oneself, and all others of some names of whom one may see when they can't: each once.
func (h *house) gather(names []string) ([]*person, error) {
	people := []*person{h.me}
	for _, name := range names {
		p, _, err := h.seen(name)
		if err != nil {
			return nil, err
		}
		if !slices.Contains(people, p) {
			people = append(people, p)
		}
	}
	return people, nil
}
