package span_test

import (
	"math/rand"

	"almanac/api"
)

// A model of how spans lie: what chapter 4 says, word by word, without a thought of how long it takes.

// lies says whether a lies to b in a way.
func lies(way int, a, b api.Span) bool {
	switch way {
	case api.Before:
		return a.To < b.From
	case api.Meets:
		return a.To == b.From
	case api.Overlaps:
		return a.From < b.From && b.From < a.To && a.To < b.To
	case api.Starts:
		return a.From == b.From && a.To < b.To
	case api.During:
		return b.From < a.From && a.To < b.To
	case api.Finishes:
		return b.From < a.From && a.To == b.To
	case api.Equal:
		return a == b
	case api.FinishedBy:
		return lies(api.Finishes, b, a)
	case api.Contains:
		return lies(api.During, b, a)
	case api.StartedBy:
		return lies(api.Starts, b, a)
	case api.OverlappedBy:
		return lies(api.Overlaps, b, a)
	case api.MetBy:
		return lies(api.Meets, b, a)
	}
	return lies(api.Before, b, a)
}

// modelWay is how a lies to b.
func modelWay(a, b api.Span) int {
	for way := range api.Ways {
		if lies(way, a, b) {
			return way
		}
	}
	return -1
}

// spansFrom are all spans with ends from a number up to another one, in order.
func spansFrom(least, most int) []api.Span {
	var l []api.Span
	for from := least; from <= most; from++ {
		for to := from + 1; to <= most; to++ {
			l = append(l, api.Span{From: from, To: to})
		}
	}
	return l
}

// modelBack is a set turned round.
func modelBack(s api.Set) api.Set {
	var b api.Set
	for way := range api.Ways {
		if s&(1<<way) != 0 {
			b |= 1 << (12 - way)
		}
	}
	return b
}

// follow is what follows of two ways: three spans have six ends at most.
type follow [api.Ways][api.Ways]api.Set

func modelFollow() *follow {
	var f follow
	l := spansFrom(0, 5)
	for _, a := range l {
		for _, b := range l {
			for _, c := range l {
				f[modelWay(a, b)][modelWay(b, c)] |= 1 << modelWay(a, c)
			}
		}
	}
	return &f
}

// join is what follows of two sets.
func (f *follow) join(p, q api.Set) api.Set {
	var s api.Set
	for i := range api.Ways {
		for k := range api.Ways {
			if p&(1<<i) != 0 && q&(1<<k) != 0 {
				s |= f[i][k]
			}
		}
	}
	return s
}

// isClosed says whether a net is as Close asks of one, apart from that no other such net has more ways.
func (f *follow) isClosed(net [][]api.Set) bool {
	for i := range net {
		if net[i][i] != 1<<api.Equal {
			return false
		}
		for k := range net {
			if net[i][k] != modelBack(net[k][i]) {
				return false
			}
			for j := range net {
				if net[i][k]&^f.join(net[i][j], net[j][k]) != 0 {
					return false
				}
			}
		}
	}
	return true
}

// close is what Close tells, but for errors: ways that can't be are left out, one by one.
func (f *follow) close(net [][]api.Set) [][]api.Set {
	net = copyOf(net)
	for f.leaveOut(net) {
	}
	return net
}

// leaveOut leaves out one way that can't be, if there is one.
func (f *follow) leaveOut(net [][]api.Set) bool {
	for i := range net {
		for k := range net {
			left := modelBack(net[k][i])
			if i == k {
				left &= 1 << api.Equal
			}
			for j := range net {
				left &= f.join(net[i][j], net[j][k])
			}
			if out := net[i][k] &^ left; out != 0 {
				net[i][k] &^= out & -out
				return true
			}
		}
	}
	return false
}

// hasNone says whether there is a set of no ways in a net.
func hasNone(net [][]api.Set) bool {
	for _, row := range net {
		for _, s := range row {
			if s == 0 {
				return true
			}
		}
	}
	return false
}

// modelHolds says whether spans lie as a net says.
func modelHolds(net [][]api.Set, l []api.Span) bool {
	for i := range l {
		for k := range l {
			if net[i][k]&(1<<modelWay(l[i], l[k])) == 0 {
				return false
			}
		}
	}
	return true
}

// lastHolds says whether the last one of the first few spans lies to each of these as a net says.
func lastHolds(net [][]api.Set, l []api.Span) bool {
	last := len(l) - 1
	for i := range l {
		if net[i][last]&(1<<modelWay(l[i], l[last])) == 0 || net[last][i]&(1<<modelWay(l[last], l[i])) == 0 {
			return false
		}
	}
	return true
}

// eachHolding goes through all lists of spans with ends from 0 up to a number that lie as a net says, in order, until it is told that it is enough.
func eachHolding(net [][]api.Set, most int, enough func([]api.Span) bool) {
	all := spansFrom(0, most)
	var try func(l []api.Span) bool
	try = func(l []api.Span) bool {
		if len(l) == len(net) {
			return enough(l)
		}
		for _, s := range all {
			longer := append(l[:len(l):len(l)], s)
			if lastHolds(net, longer) && try(longer) {
				return true
			}
		}
		return false
	}
	try(nil)
}

// modelSolve is the first list for which Holds, of those that Solve looks through; nil, if there is none.
func modelSolve(net [][]api.Set) []api.Span {
	var first []api.Span
	eachHolding(net, 2*len(net)-1, func(l []api.Span) bool {
		first = l
		return true
	})
	return first
}

// drawn is a net of so many spans, of which each two may lie in one drawn way and up to more other ones.
func drawn(r *rand.Rand, size, more int) [][]api.Set {
	net := loose(size)
	for i := range size {
		for k := range i {
			ways := []int{r.Intn(api.Ways)}
			for range r.Intn(more + 1) {
				ways = append(ways, r.Intn(api.Ways))
			}
			say(net, i, k, ways...)
		}
	}
	return net
}

// drawnAround is a net of so many spans that some spans lie in, and up to more other ways for each two.
func drawnAround(r *rand.Rand, size, more int) [][]api.Set {
	all := spansFrom(0, 2*size-1)
	var l []api.Span
	for range size {
		l = append(l, all[r.Intn(len(all))])
	}
	net := drawn(r, size, more)
	for i := range size {
		for k := range size {
			net[i][k] |= 1 << modelWay(l[i], l[k])
		}
	}
	return net
}
