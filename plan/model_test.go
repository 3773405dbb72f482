package plan_test

import (
	"slices"

	"almanac/api"
)

// A model of chapter 12: what fits is tried out, time by time.

// holds says whether a link holds: that of a task which is there to another one.
func holds(link api.Link, own, other api.Span) bool {
	switch link.Kind {
	case api.EndStart:
		return own.From >= other.To+link.Lag
	case api.StartStart:
		return own.From >= other.From+link.Lag
	case api.EndEnd:
		return own.To >= other.To+link.Lag
	}
	return own.To >= other.From+link.Lag
}

// allHold says whether all links hold.
func allHold(l []api.Task, spans []api.Span) bool {
	for i, task := range l {
		for _, link := range task.Links {
			if !holds(link, spans[i], spans[link.Task]) {
				return false
			}
		}
	}
	return true
}

// areLong says whether spans are as long as their tasks.
func areLong(l []api.Task, spans []api.Span) bool {
	for i, task := range l {
		if spans[i].To-spans[i].From != task.Length {
			return false
		}
	}
	return len(l) == len(spans)
}

// fit says whether spans fit.
func fit(l []api.Task, spans []api.Span) bool {
	for i, task := range l {
		if spans[i].From < task.NotBefore {
			return false
		}
	}
	return areLong(l, spans) && allHold(l, spans)
}

// endBy says whether all ends by a time.
func endBy(spans []api.Span, by int) bool {
	for _, s := range spans {
		if s.To > by {
			return false
		}
	}
	return true
}

// allSpans goes over all spans of tasks that begin from nought on, up to some time.
func allSpans(l []api.Task, up int, yield func([]api.Span)) {
	spans := make([]api.Span, len(l))
	var from func(int)
	from = func(i int) {
		if i == len(l) {
			yield(spans)
			return
		}
		for x := range up + 1 {
			spans[i] = api.Span{From: x, To: x + l[i].Length}
			from(i + 1)
		}
	}
	from(0)
}

// bestOf are, task by task, the least (or greatest) of spans.
func bestOf(a, b []api.Span, greatest bool) []api.Span {
	if a == nil {
		return slices.Clone(b)
	}
	for i := range a {
		if (b[i].From > a[i].From) == greatest {
			a[i] = b[i]
		}
	}
	return a
}

// modelNext is the task that gets its place next.
func modelNext(l []api.Task, last []api.Span, placed map[int]api.Span) int {
	var ready []int
	for i, task := range l {
		_, has := placed[i]
		if !has && !slices.ContainsFunc(task.Links, func(link api.Link) bool { _, has := placed[link.Task]; return !has }) {
			ready = append(ready, i)
		}
	}
	slices.SortStableFunc(ready, func(a, b int) int { return last[a].From - last[b].From })
	return ready[0]
}

// modelPlace is a task's first place.
func modelPlace(l []api.Task, i int, have []int, placed map[int]api.Span) api.Span {
	for x := l[i].NotBefore; ; x++ {
		s := api.Span{From: x, To: x + l[i].Length}
		if modelHolds(l[i], s, placed) && modelRoom(l, i, s, have, placed) {
			return s
		}
	}
}

// modelHolds says whether a task's links hold.
func modelHolds(task api.Task, s api.Span, placed map[int]api.Span) bool {
	for _, link := range task.Links {
		if !holds(link, s, placed[link.Task]) {
			return false
		}
	}
	return true
}

// modelRoom says whether at no time more is used than there is.
func modelRoom(l []api.Task, i int, s api.Span, have []int, placed map[int]api.Span) bool {
	for x := s.From; x < s.To; x++ {
		var used [8]int
		for resource, use := range l[i].Uses {
			used[resource] += use
		}
		for k, other := range placed {
			if other.From <= x && x < other.To {
				for resource, use := range l[k].Uses {
					used[resource] += use
				}
			}
		}
		for resource, use := range used {
			if resource < len(have) && use > have[resource] || resource >= len(have) && use > 0 {
				return false
			}
		}
	}
	return true
}

// modelLevel are the places of tasks, second by second.
func modelLevel(l []api.Task, have []int, last []api.Span) []api.Span {
	placed := map[int]api.Span{}
	for range l {
		i := modelNext(l, last, placed)
		placed[i] = modelPlace(l, i, have, placed)
	}
	spans := make([]api.Span, len(l))
	for i, s := range placed {
		spans[i] = s
	}
	return spans
}

// longest is how long the longest row of tasks takes that ends with this one: from its NotBefore on, or behind another row.
func longest(l []api.Task, i int) int {
	most := l[i].NotBefore
	for _, link := range l[i].Links {
		other := longest(l, link.Task)
		own := api.Span{To: l[i].Length}
		for !holds(link, own, api.Span{From: other - l[link.Task].Length, To: other}) {
			own.From++
			own.To++
		}
		most = max(most, own.From)
	}
	return most + l[i].Length
}
