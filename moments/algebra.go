package moments

import (
	"iter"

	"almanac/api"
)

// Or is what is of one of both.
func (s Set[T]) Or(o Set[T]) Set[T] { return s.Not().And(o.Not()).Not() }

// And is what is of both.
func (s Set[T]) And(o Set[T]) Set[T] {
	var both []api.Span
	a, b := s.spans, o.spans
	for len(a) > 0 && len(b) > 0 {
		both = lay(both, api.Span{From: max(a[0].From, b[0].From), To: min(a[0].To, b[0].To)})
		// The one that ends first has nothing in common with what is behind the other one.
		if a[0].To < b[0].To {
			a = a[1:]
		} else {
			b = b[1:]
		}
	}
	return Set[T]{both}
}

// Not is all that is not of it, from Low up to High.
func (s Set[T]) Not() Set[T] {
	var rest []api.Span
	end := Low
	for x := range s.All() {
		rest = lay(rest, api.Span{From: end, To: x.From})
		end = x.To
	}
	return Set[T]{lay(rest, api.Span{From: end, To: High})}
}

// Less is what is of it, and not of the other one.
func (s Set[T]) Less(o Set[T]) Set[T] { return s.And(o.Not()) }

// Shift moves all times on; what would lie beyond the ends is no more.
func (s Set[T]) Shift(n int) Set[T] {
	// From end to end nothing is left: what is farther is the same, and its sums might be beyond all numbers.
	n = max(Low-High, min(n, High-Low))
	var moved []api.Span
	for x := range s.All() {
		moved = lay(moved, clip(api.Span{From: x.From + n, To: x.To + n}))
	}
	return Set[T]{moved}
}

// Close adds what lies between two spans that are no farther than so much from each other.
func (s Set[T]) Close(gap int) Set[T] { return Set[T]{joined(s.All(), gap)} }

// Long leaves spans that are so long at least.
func (s Set[T]) Long(n int) Set[T] {
	var long []api.Span
	for x := range s.All() {
		if x.To-x.From >= n {
			long = append(long, x)
		}
	}
	return Set[T]{long}
}

// clip is what of a span is from Low up to High.
func clip(x api.Span) api.Span { return api.Span{From: max(x.From, Low), To: min(x.To, High)} }

// lay lays a span behind others, unless it is empty.
func lay(spans []api.Span, x api.Span) []api.Span {
	if x.From >= x.To {
		return spans
	}
	return append(spans, x)
}

// joined are spans of which none begins ahead of the one before it: those that begin no more than gap behind the end of what is ahead of them are one with it.
func joined(in iter.Seq[api.Span], gap int) []api.Span {
	var spans []api.Span
	for x := range in {
		last := len(spans) - 1
		if last >= 0 && x.From-spans[last].To <= gap {
			spans[last].To = max(spans[last].To, x.To)
		} else {
			spans = append(spans, x)
		}
	}
	return spans
}
