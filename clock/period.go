package clock

import (
	"almanac/api"
)

// ParsePeriod reads a period, all of a text.
func ParsePeriod(text string) (api.Period, error) {
	r := reader{text: text}
	back := r.skip('-')
	p, err := r.period()
	if err != nil {
		return api.Period{}, err
	}
	if err := r.end(); err != nil {
		return api.Period{}, err
	}
	if back {
		return turned(p), nil
	}
	return p, nil
}

// period reads a period from its P on.
func (r *reader) period() (api.Period, error) {
	if err := r.want('P'); err != nil {
		return api.Period{}, err
	}
	start := r.at
	long, err := r.counts("YMWD")
	if err != nil {
		return api.Period{}, err
	}
	p := api.Period{Years: long[0], Months: long[1], Weeks: long[2], Days: long[3]}
	if r.skip('T') {
		start = r.at
		short, err := r.counts("HMS")
		if err != nil {
			return api.Period{}, err
		}
		p.Seconds = seconds(api.Clock{Hour: short[0], Minute: short[1], Second: short[2]})
	}
	if r.at == start {
		return api.Period{}, r.fault()
	}
	return p, nil
}

// counts reads numbers with letters behind them, each letter once at most, in their order: a number for each letter. It leaves off where no letter is left that a further number could have.
func (r *reader) counts(letters string) ([]int, error) {
	l := make([]int, len(letters))
	n, waits := 0, false // a number that has been read, and waits for its letter
	for i := range len(letters) {
		if !waits && r.run() > 0 {
			var err error
			if n, err = r.count(); err != nil {
				return nil, err
			}
			waits = true
		}
		if waits && r.skip(letters[i]) {
			l[i], waits = n, false
		}
	}
	if waits {
		return nil, r.fault()
	}
	return l, nil
}

// count reads a number of as many digits as there are, which are not too many.
func (r *reader) count() (int, error) {
	const most = 8
	digits := r.run()
	if digits > most {
		return 0, &api.At{Err: api.ErrLimit, Place: r.at}
	}
	return r.number(digits)
}
