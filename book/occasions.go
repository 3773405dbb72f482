package book

import (
	"cmp"
	"slices"
	"sync"
	"sync/atomic"

	"almanac/api"
)

// Of are the occasions of an event, from a moment on, up to another one.
func (b *Book) Of(uid string, from api.Instant, to api.Instant) ([]api.Occasion, error) {
	e, err := b.event(uid)
	if err != nil {
		return nil, err
	}
	w := window{from, to}
	if err := w.check(); err != nil {
		return nil, err
	}
	l := b.occasions(e, w)
	slices.SortFunc(l, inOrder)
	return l, nil
}

// Between are all occasions from a moment on, up to another one, in order.
func (b *Book) Between(from api.Instant, to api.Instant) ([]api.Occasion, error) {
	w := window{from, to}
	if err := w.check(); err != nil {
		return nil, err
	}
	uids := b.Uids()
	lists := make([][]api.Occasion, len(uids))
	var asked sync.WaitGroup
	var found atomic.Int64
	for i, uid := range uids {
		asked.Add(1)
		go func() {
			defer asked.Done()
			lists[i] = b.occasions(b.events[uid], w)
			found.Add(int64(len(lists[i])))
		}()
	}
	asked.Wait()
	all := make([]api.Occasion, 0, found.Load())
	for _, l := range lists {
		all = append(all, l...)
	}
	slices.SortFunc(all, inOrder)
	return all, nil
}

// inOrder tells which occasion is told ahead of which.
func inOrder(a, b api.Occasion) int {
	return cmp.Or(cmp.Compare(a.From, b.From), cmp.Compare(a.To, b.To), cmp.Compare(a.Uid, b.Uid), cmp.Compare(a.At, b.At))
}

// occasions are those of an event in a window, in no order.
func (b *Book) occasions(e api.Event, w window) []api.Occasion {
	near := takings(e, w)
	starts := make([]api.Local, len(near))
	for i, x := range near {
		starts[i] = x.Start
	}
	var l []api.Occasion
	for i, from := range b.zones[e.Zone].moments(starts) {
		x := near[i]
		o := api.Occasion{Uid: e.Uid, At: x.At, From: from, To: from + api.Instant(x.Length), Title: x.Title, Free: e.Free}
		if w.has(o) {
			l = append(l, o)
		}
	}
	return l
}

// takings are how an event takes place at each of its times; all are among them whose occasions are in a window.
func takings(e api.Event, w window) []api.Other {
	var l []api.Other
	e = ended(e)
	from, to := w.starts(e.Length)
	for _, t := range timesOf(e, from, to) {
		if !slices.ContainsFunc(e.Others, func(o api.Other) bool { return o.At == t }) {
			l = append(l, api.Other{At: t, Start: t, Length: e.Length, Title: e.Title})
		}
	}
	for _, o := range e.Others {
		from, to := w.starts(o.Length)
		if !o.Gone && o.Start >= from && o.Start < to && hasTime(e, o.At) {
			l = append(l, o)
		}
	}
	return l
}

// window is the time from a moment on, up to another one.
type window struct{ from, to api.Instant }

// check says whether one may ask for it.
func (w window) check() error {
	switch {
	case w.from > w.to || w.from < -api.MaxTime || w.to > api.MaxTime:
		return api.ErrRange
	case w.to-w.from > api.MaxWindow:
		return api.ErrLimit
	}
	return nil
}

// has says whether an occasion is one of the window's.
func (w window) has(o api.Occasion) bool {
	return o.From < w.to && (o.To > w.from || o.From >= w.from)
}

// starts are the local times from which on, and up to which, all starts are of occasions of a length that the window has.
func (w window) starts(length int) (from, to api.Local) {
	// Offset and what is saved are each below a day: so far, at most, is a moment from what is shown.
	const margin = 2 * api.Daily
	return api.Local(w.from) - api.Local(length) - margin, api.Local(w.to) + margin
}
