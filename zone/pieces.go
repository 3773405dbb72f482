package zone

import (
	"math"

	"almanac/api"
)

// worked are the pieces of time in which the clocks go in one way: each begins with a change, but for the first one, which has no beginning. They are worked out when they are first asked for.
func (z *Zone) worked() []api.Change {
	z.once.Do(z.workOut)
	return z.pieces
}

func (z *Zone) workOut() {
	turns := turnsOf(z.rules)
	// An era whose until is not behind that of one ahead of it is never in force.
	from := api.Instant(math.MinInt)
	for _, e := range z.eras {
		own := e.own(turns)
		until := api.Instant(math.MaxInt)
		if e.ends {
			until = e.end(own)
		}
		if from < until {
			z.lay(from, until, e, own)
			from = until
		}
	}
}

// lay lays the pieces of an era that is in force from a moment on, up to another one.
func (z *Zone) lay(from, until api.Instant, e era, own []turn) {
	z.add(api.Change{At: from, Now: e.now(0)})
	for _, c := range e.tells(own) {
		if c.At >= until {
			break
		}
		c.At = max(c.At, from)
		z.add(c)
	}
}

// add adds a piece behind the others. It takes the place of one that begins with it, and is one with the one ahead of it if the clocks go on in the same way.
func (z *Zone) add(c api.Change) {
	last := len(z.pieces) - 1
	if last >= 0 && z.pieces[last].At == c.At {
		z.pieces = z.pieces[:last]
		last--
	}
	if last < 0 || z.pieces[last].Now != c.Now {
		z.pieces = append(z.pieces, c)
	}
}
