package days

import (
	"almanac/api"
)

// Maya is how the Maya call a day, from the beginning of their count on.
func Maya(day int) (api.Maya, error) {
	n, err := mayaCount(day)
	if err != nil {
		return api.Maya{}, err
	}
	return api.Maya{
		Baktun: n / 144000,
		Katun:  n / 7200 % 20,
		Tun:    n / 360 % 20,
		Uinal:  n / 20 % 18,
		Kin:    n % 20,
		Round:  roundOf(n),
	}, nil
}

// NextRound is the first day from one on that is called so.
func NextRound(r api.Round, from int) (int, error) {
	const roundDays = 18_980
	n, err := mayaCount(from)
	if err != nil {
		return 0, err
	}
	for i := range roundDays {
		if err := checkDay(from + i); err != nil {
			return 0, err
		}
		if roundOf(n+i) == r {
			return from + i, nil
		}
	}
	return 0, api.ErrNone
}

// mayaCount is how many days a day is behind the beginning of the count.
func mayaCount(day int) (int, error) {
	const first = -1856305
	if day < first {
		return 0, api.ErrRange
	}
	if err := checkDay(day); err != nil {
		return 0, err
	}
	return day - first, nil
}

// roundOf is the round's name of the day that so many days of the count are ahead of.
func roundOf(n int) api.Round {
	haab := (n + 348) % 365
	return api.Round{
		HaabMonth: 1 + haab/20,
		HaabDay:   haab % 20,
		Number:    1 + (n+3)%13,
		Name:      1 + (n+19)%20,
	}
}
