package days

func hebrew() calendar {
	leap := spread(1, 7, 19).is
	return calendar{
		leap: leap,
		months: func(year int) int {
			if leap(year) {
				return 13
			}
			return 12
		},
		length: func(year, month int) int {
			if month > 5 && leap(year) {
				// The month that a leap year has more, the sixth, is as long as the fifth: from it on each is as long as the one ahead of it is in other years.
				month--
			}
			return hebrewLength(year, month)
		},
		start: hebrewStart,
	}
}

// hebrewLength is how many days a month has, counted as in a year that is no leap year.
func hebrewLength(year, month int) int {
	switch {
	case month == 2 && endsWith(year, 5):
		return 30
	case month == 3 && endsWith(year, 3):
		return 29
	}
	return 29 + month%2
}

// endsWith says whether this is the last digit of how many days a year has: 5 in years of 355 or 385, 3 in those of 353 or 383.
func endsWith(year, digit int) bool {
	return (hebrewStart(year+1)-hebrewStart(year))%10 == digit
}

// hebrewStart is the day with which a year begins: later than the moon says where the year, or the one ahead of it, would get a length that none may have.
func hebrewStart(year int) int {
	const first = -2092590
	day := moonDays(year)
	switch {
	case moonDays(year+1)-day == 356:
		return first + day + 2
	case day-moonDays(year-1) == 382:
		return first + day + 1
	}
	return first + day
}

// moonDays is how many days behind year 1 a year would begin, if the lengths of years were free.
func moonDays(year int) int {
	const partsOfDay = 25920
	months := floor(235*year-234, 19)
	days := 29*months + floor(12084+13753*months, partsOfDay)
	if mod(3*(days+1), 7) < 3 {
		days++
	}
	return days
}
