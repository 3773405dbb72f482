package plan

import (
	"slices"

	"almanac/api"
)

// Level is when tasks are, where there is just so much of each resource: they get their places one by one, those first that must begin first (of several the first), each as soon as it can be.
func Level(l []api.Task, have []int) ([]api.Span, error) {
	if err := Check(l); err != nil {
		return nil, err
	}
	if len(have) > most || slices.ContainsFunc(have, func(n int) bool { return n < 0 }) {
		return nil, api.ErrArg
	}
	for _, t := range l {
		for resource, use := range t.Uses {
			if use > amount(have, resource) {
				return nil, api.ErrClash
			}
		}
	}
	last := late(l, end(early(l)))
	p := places{tasks: l, have: have, spans: make([]api.Span, len(l)), placed: make([]bool, len(l))}
	for range l {
		p.put(p.next(last))
	}
	return p.spans, nil
}

// amount is how much there is of a resource, or how much of it is used.
func amount(l []int, resource int) int {
	if resource >= len(l) {
		return 0
	}
	return l[resource]
}

// places are those of the tasks that have got theirs.
type places struct {
	tasks  []api.Task
	have   []int
	spans  []api.Span
	placed []bool
}

// next is the task that gets its place next: of those that hang on none that has no place yet the one that must begin first.
func (p *places) next(last []api.Span) int {
	next := -1
	for i, t := range p.tasks {
		if p.placed[i] || !haveAll(t.Links, p.placed) {
			continue
		}
		if next < 0 || last[i].From < last[next].From {
			next = i
		}
	}
	return next
}

// put gives a task its place: what is used gets less only where a task ends, so it is at once, or where one ends.
func (p *places) put(i int) {
	t := p.tasks[i]
	first := soonest(p.tasks, i, p.spans)
	begins := []int{first}
	for k, s := range p.spans {
		if p.placed[k] && s.To > first {
			begins = append(begins, s.To)
		}
	}
	slices.Sort(begins)
	for _, begin := range begins {
		if p.hasRoom(t, place(t, begin)) {
			p.spans[i], p.placed[i] = place(t, begin), true
			return
		}
	}
}

// hasRoom says whether in a span never more is used than there is: what is used gets more only where a task begins.
func (p *places) hasRoom(t api.Task, s api.Span) bool {
	if s.From == s.To {
		return true
	}
	if !p.hasRoomAt(t, s.From) {
		return false
	}
	for k, other := range p.spans {
		if p.placed[k] && other.From > s.From && other.From < s.To && !p.hasRoomAt(t, other.From) {
			return false
		}
	}
	return true
}

// hasRoomAt says whether at some time there is as much left of each resource as a task uses.
func (p *places) hasRoomAt(t api.Task, at int) bool {
	for resource, use := range t.Uses {
		for k, other := range p.spans {
			if p.placed[k] && other.From <= at && at < other.To {
				use += amount(p.tasks[k].Uses, resource)
			}
		}
		if use > amount(p.have, resource) {
			return false
		}
	}
	return true
}
