package days

import (
	"almanac/api"
)

// Easter is the day of Easter, as it is reckoned in the west, or in the east.
func Easter(year int, east bool) (int, error) {
	if year < 1 || year > api.MaxYear {
		return 0, api.ErrRange
	}
	april19 := api.Date{Cal: api.Gregorian, Year: year, Month: 4, Day: 19}
	ahead := westMoon(year)
	if east {
		april19.Cal = api.Julian
		ahead = eastMoon(year)
	}
	day, err := Day(april19)
	if err != nil {
		return 0, err
	}
	full := day - ahead
	// Of a full moon on a Sunday it is the next one: the rest of 7 makes that a whole week.
	return ifThere(full + 7 - Weekday(full)%7)
}

// eastMoon is how many days the full moon is ahead of the 19 April.
func eastMoon(year int) int {
	return mod(14+11*mod(year, 19), 30)
}

// westMoon is eastMoon, mended for the leap years that are left out, and for what the moon is off.
func westMoon(year int) int {
	century := floor(year, 100) + 1
	gold := mod(year, 19)
	n := mod(14+11*gold-floor(3*century, 4)+floor(5+8*century, 25), 30)
	if n == 0 || n == 1 && gold > 10 {
		n++
	}
	return n
}
