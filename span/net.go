package span

import (
	"slices"

	"almanac/api"
)

// Check says whether a net may be: how each of some spans may lie to each.
func Check(net [][]api.Set) error {
	if len(net) < 1 || len(net) > api.MaxSpans {
		return api.ErrLimit
	}
	for i := range len(net) {
		if len(net[i]) != len(net) {
			return api.ErrForm
		}
		if slices.ContainsFunc(net[i], isNoSet) {
			return api.ErrArg
		}
	}
	return nil
}

// Close leaves out, again and again, what no third span lets be: ways of which none is left anywhere: ErrNone.
func Close(net [][]api.Set) ([][]api.Set, error) {
	g, err := closed(net)
	if err != nil {
		return nil, err
	}
	return g.rows(), nil
}

// Holds says whether spans lie as a net says.
func Holds(net [][]api.Set, l []api.Span) (bool, error) {
	if err := Check(net); err != nil {
		return false, err
	}
	if len(l) != len(net) {
		return false, api.ErrForm
	}
	if slices.ContainsFunc(l, isEmpty) {
		return false, api.ErrEmpty
	}
	return lieSo(net, l), nil
}

// isNoSet says whether a number is no set of ways.
func isNoSet(s api.Set) bool { return !isSet(s) }

// lieSo says whether spans lie as a net says, each to each and to itself.
func lieSo(net [][]api.Set, l []api.Span) bool {
	for i := range len(l) {
		for k := range len(l) {
			if !has(net[i][k], way(l[i], l[k])) {
				return false
			}
		}
	}
	return true
}

// grid is a net that may be written into.
type grid struct {
	size int
	ways [api.MaxSpans][api.MaxSpans]api.Set
}

// closed is what Close tells of a net.
func closed(net [][]api.Set) (grid, error) {
	if err := Check(net); err != nil {
		return grid{}, err
	}
	g := gridOf(net)
	g.match()
	for g.narrow() {
	}
	if g.lacks() {
		return grid{}, api.ErrNone
	}
	return g, nil
}

// gridOf is a copy of a net.
func gridOf(net [][]api.Set) grid {
	g := grid{size: len(net)}
	for i := range g.size {
		copy(g.ways[i][:], net[i])
	}
	return g
}

// match leaves of each span to itself Equal alone, and of two spans the ways that both of their sets tell.
func (g *grid) match() {
	for i := range g.size {
		g.ways[i][i] &= 1 << api.Equal
		for k := range g.size {
			g.ways[i][k] &= back(g.ways[k][i])
		}
	}
}

// narrow leaves out, in a grid that matches, what a third span does not let be, and says whether that was anything. The grid still matches.
func (g *grid) narrow() bool {
	less := false
	for i := range g.size {
		for j := range g.size {
			for k := range g.size {
				left := g.ways[i][k] & join(g.ways[i][j], g.ways[j][k])
				if left != g.ways[i][k] {
					g.ways[i][k], g.ways[k][i] = left, back(left)
					less = true
				}
			}
		}
	}
	return less
}

// lacks says whether there are two spans for which no way is left.
func (g *grid) lacks() bool {
	for i := range g.size {
		if slices.Contains(g.ways[i][:g.size], 0) {
			return true
		}
	}
	return false
}

// rows are those of the net that the grid is.
func (g *grid) rows() [][]api.Set {
	var rows [][]api.Set
	for i := range g.size {
		rows = append(rows, slices.Clone(g.ways[i][:g.size]))
	}
	return rows
}
