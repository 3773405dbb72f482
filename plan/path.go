package plan

import (
	"slices"

	"almanac/api"
)

// Path is a row of tasks, each of which begins as soon as it can behind the one ahead, up to the last one that ends (of several the first): the first one waits for none.
func Path(l []api.Task) ([]int, error) {
	spans, err := Early(l)
	if err != nil || len(l) == 0 {
		return nil, err
	}
	task := lastOf(spans)
	row := []int{task}
	for spans[task].From != l[task].NotBefore {
		task = waitsFor(l, task, spans)
		row = append(row, task)
	}
	slices.Reverse(row)
	return row, nil
}

// lastOf is the first of those that end the last.
func lastOf(spans []api.Span) int {
	last := 0
	for i, s := range spans {
		if s.To > spans[last].To {
			last = i
		}
	}
	return last
}

// waitsFor is the task for which one waits that begins behind its NotBefore: of the first link that lets it begin no sooner.
func waitsFor(l []api.Task, i int, spans []api.Span) int {
	first := slices.IndexFunc(l[i].Links, func(link api.Link) bool {
		return soonestBy(l, i, link, spans) == spans[i].From
	})
	return l[i].Links[first].Task
}
