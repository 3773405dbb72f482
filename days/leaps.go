package days

// leaps are the leap years of a calendar.
type leaps struct {
	is    func(year int) bool
	ahead func(year int) int // how many of them are ahead of a year, counted from year 1 on: below 0 for a year ahead of that
}

// spread has the years whose (begin + many years) mod cycle is below many: so many in each cycle, spread over it evenly.
func spread(begin, many, cycle int) leaps {
	return leaps{
		is: func(year int) bool { return mod(begin+many*year, cycle) < many },
		ahead: func(year int) int {
			return floor(begin+many*(year-1), cycle) - floor(begin, cycle)
		},
	}
}

// everyFourth has the years that leave rest, of 4.
func everyFourth(rest int) leaps { return spread(-rest, 1, 4) }

func noLeaps() leaps {
	return leaps{
		is:    func(int) bool { return false },
		ahead: func(int) int { return 0 },
	}
}

func gregorianLeaps() leaps {
	return leaps{
		is: func(year int) bool {
			return mod(year, 4) == 0 && (mod(year, 100) != 0 || mod(year, 400) == 0)
		},
		ahead: func(year int) int {
			return floor(year-1, 4) - floor(year-1, 100) + floor(year-1, 400)
		},
	}
}

// later has the years whose number is a leap year's once by is added to it.
func later(l leaps, by int) leaps {
	return leaps{
		is:    func(year int) bool { return l.is(year + by) },
		ahead: func(year int) int { return l.ahead(year+by) - l.ahead(1+by) },
	}
}

func frenchLeaps() leaps {
	g := gregorianLeaps()
	return leaps{
		is:    func(year int) bool { return g.is(year) && mod(year, 4000) != 0 },
		ahead: func(year int) int { return g.ahead(year) - floor(year-1, 4000) },
	}
}

// persianLeaps has years that are spread evenly within a cycle of years, and begin anew with each cycle.
func persianLeaps() leaps {
	const cycle, first, place = 2820, 474, 512
	s := spread(0, 682, 2816)
	within := s.ahead(place+cycle) - s.ahead(place)
	inCycle := func(year int) int { return mod(year-first, cycle) + place }
	ahead := func(year int) int { return floor(year-first, cycle)*within + s.ahead(inCycle(year)) }
	return leaps{
		is:    func(year int) bool { return s.is(inCycle(year)) },
		ahead: func(year int) int { return ahead(year) - ahead(1) },
	}
}
