package moments_test

import (
	"math/rand"

	"almanac/api"
	"almanac/moments"
)

// A model of sets: what chapter 5 says, time by time.

// edge is as far as the model goes to each side.
const edge = 24

// model tells of each time from -edge to edge whether it is of a set. All times ahead of these are as the first one, all behind as the last one.
type model [2*edge + 1]bool

// window are the times that the model tells.
func window() []int {
	var l []int
	for t := -edge; t <= edge; t++ {
		l = append(l, t)
	}
	return l
}

// modelOf has the times of spans that begin and end within the window or beyond all times.
func modelOf(spans []api.Span) *model {
	var m model
	for i, t := range window() {
		for _, x := range spans {
			m[i] = m[i] || x.From <= t && t < x.To
		}
	}
	return &m
}

// isTime says whether a number is a time that a set may have.
func isTime(t int) bool { return t >= moments.Low && t < moments.High }

// has says whether a time is of the set.
func (m *model) has(t int) bool { return isTime(t) && m[clamp(t)+edge] }

// clamp is the time of the window that stands for a time.
func clamp(t int) int { return min(max(t, -edge), edge) }

// around is the span of a time of the set.
func (m *model) around(t int) api.Span {
	x := api.Span{From: clamp(t), To: clamp(t)}
	for x.From >= -edge && m.has(x.From) {
		x.From--
	}
	for x.To <= edge && m.has(x.To) {
		x.To++
	}
	x.From++
	if x.From == -edge {
		x.From = moments.Low
	}
	if x.To == edge+1 {
		x.To = moments.High
	}
	return x
}

// closed says whether a time is of the set closed.
func (m *model) closed(t, gap int) bool {
	if m.has(t) || !isTime(t) {
		return m.has(t)
	}
	ahead, behind := clamp(t), clamp(t)
	for ahead >= -edge && !m.has(ahead) {
		ahead--
	}
	for behind <= edge && !m.has(behind) {
		behind++
	}
	return ahead >= -edge && behind <= edge && behind-(ahead+1) <= gap
}

// long says whether a time is of a span of so many times at least.
func (m *model) long(t, n int) bool {
	x := m.around(t)
	return m.has(t) && x.To-x.From >= n
}

// room is the first time not ahead of one from which on so many are of the set. If it is not that time itself, a span begins with it.
func (m *model) room(t, n int) (int, bool) {
	t = max(t, moments.Low)
	for _, x := range append([]int{t}, window()...) {
		if x >= t && m.has(x) && m.around(x).To-x >= n {
			return x, true
		}
	}
	return 0, false
}

// drawn are some spans that begin and end within the window, or beyond all times.
func drawn(r *rand.Rand) []api.Span {
	var spans []api.Span
	for range r.Intn(8) {
		from := 1 - edge + r.Intn(2*edge)
		spans = append(spans, api.Span{From: from, To: min(edge, from+r.Intn(9)-1)})
	}
	if r.Intn(4) == 0 {
		spans = append(spans, api.Span{From: far[r.Intn(5)], To: 1 - edge + r.Intn(9)})
	}
	if r.Intn(4) == 0 {
		spans = append(spans, api.Span{From: edge - r.Intn(9), To: far[len(far)-1-r.Intn(5)]})
	}
	r.Shuffle(len(spans), func(i, k int) { spans[i], spans[k] = spans[k], spans[i] })
	return spans
}
