package plan

import (
	"slices"

	"almanac/api"
)

// gap is how far behind the other's beginning a task begins at the soonest: so all kinds of links are of one kind.
func gap(link api.Link, length, others int) int {
	gap := link.Lag
	if link.Kind == api.EndStart || link.Kind == api.EndEnd {
		gap += others
	}
	if link.Kind == api.EndEnd || link.Kind == api.StartEnd {
		gap -= length
	}
	return gap
}

// soonestBy is when a task begins at the soonest, by one of its links alone.
func soonestBy(l []api.Task, i int, link api.Link, spans []api.Span) int {
	return spans[link.Task].From + gap(link, l[i].Length, l[link.Task].Length)
}

// soonest is when a task begins at the soonest, where those are on which it hangs.
func soonest(l []api.Task, i int, spans []api.Span) int {
	begin := l[i].NotBefore
	for _, link := range l[i].Links {
		begin = max(begin, soonestBy(l, i, link, spans))
	}
	return begin
}

// place is a task's span that begins at some time.
func place(t api.Task, begin int) api.Span { return api.Span{From: begin, To: begin + t.Length} }

// early is when tasks are, if each is as soon as it can be.
func early(l []api.Task) []api.Span {
	spans := make([]api.Span, len(l))
	for _, i := range order(l) {
		spans[i] = place(l[i], soonest(l, i, spans))
	}
	return spans
}

// late is when tasks are, if each is as late as it can be, and all end by some time.
func late(l []api.Task, by int) []api.Span {
	spans := make([]api.Span, len(l))
	for i, t := range l {
		spans[i] = place(t, by-t.Length)
	}
	for _, i := range slices.Backward(order(l)) {
		for _, link := range l[i].Links {
			other := l[link.Task]
			begin := spans[i].From - gap(link, l[i].Length, other.Length)
			spans[link.Task] = place(other, min(spans[link.Task].From, begin))
		}
	}
	return spans
}

// end is when the last of these ends.
func end(spans []api.Span) int {
	last := 0
	for _, s := range spans {
		last = max(last, s.To)
	}
	return last
}
