package span

import "almanac/api"

// Solve tells spans that lie as a net says: of all those with ends from 0 up to twice as many as there are, the first ones in order.
func Solve(net [][]api.Set) ([]api.Span, error) {
	g, err := closed(net)
	if err != nil {
		return nil, err
	}
	s := searchOf(&g)
	now := s.start()
	var l []api.Span
	for i := range g.size {
		n, next, ok := s.first(now, i)
		if !ok {
			return nil, api.ErrNone
		}
		l = append(l, s.spans[n])
		now = next
	}
	return l, nil
}

// search looks for spans that lie as a closed net says.
type search struct {
	size  int
	spans []api.Span                          // all that there may be, in order
	lets  [api.MaxSpans][api.MaxSpans][]marks // where the row's span is the one of this number: the numbers of those that the column's may be
}

// state is how far a search has come.
type state struct {
	may    [api.MaxSpans]marks // the numbers of those that each span may be
	chosen [api.MaxSpans]bool
}

func searchOf(g *grid) *search {
	s := &search{size: g.size, spans: spansBelow(2 * g.size)}
	for i := range g.size {
		for k := range g.size {
			s.lets[i][k] = letsOf(s.spans, g.ways[i][k])
		}
	}
	return s
}

// spansBelow are all spans with ends from 0 on and below a bound, in order.
func spansBelow(bound int) []api.Span {
	var l []api.Span
	for from := range bound {
		for to := from + 1; to < bound; to++ {
			l = append(l, api.Span{From: from, To: to})
		}
	}
	return l
}

// letsOf tells for each of the spans to which of them it lies in one of these ways.
func letsOf(spans []api.Span, ways api.Set) []marks {
	lets := make([]marks, len(spans))
	for n := range len(spans) {
		for m := range len(spans) {
			if has(ways, way(spans[n], spans[m])) {
				lets[n].add(m)
			}
		}
	}
	return lets
}

// start is where nothing is chosen, and each may be any span.
func (s *search) start() state {
	var now state
	for i := range s.size {
		for n := range len(s.spans) {
			now.may[i].add(n)
		}
	}
	return now
}

// first is the number of the first span that the i-th may be so that there are some for all others, and the state in which it is chosen.
func (s *search) first(now state, i int) (int, state, bool) {
	for n := range len(s.spans) {
		if !now.may[i].has(n) {
			continue
		}
		if next, ok := s.choose(now, i, n); ok && s.goesOn(next) {
			return n, next, true
		}
	}
	return 0, state{}, false
}

// choose takes for the i-th the span of a number: is something left for each of the others?
func (s *search) choose(now state, i, n int) (state, bool) {
	now.chosen[i] = true
	for k := range s.size {
		if now.chosen[k] {
			continue
		}
		now.may[k] = now.may[k].both(s.lets[i][k][n])
		if now.may[k].count() == 0 {
			return state{}, false
		}
	}
	return now, true
}

// goesOn says whether there are spans for all that are not chosen yet.
func (s *search) goesOn(now state) bool {
	i, ok := s.tightest(now)
	if !ok {
		return true
	}
	_, _, ok = s.first(now, i)
	return ok
}

// tightest is the one with the fewest spans left, of those that are not chosen yet: taken first, it shows soonest that nothing fits.
func (s *search) tightest(now state) (int, bool) {
	tightest, fewest := 0, len(s.spans)+1
	for i := range s.size {
		if count := now.may[i].count(); !now.chosen[i] && count < fewest {
			tightest, fewest = i, count
		}
	}
	return tightest, fewest <= len(s.spans)
}
