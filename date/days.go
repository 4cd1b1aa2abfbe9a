package date

// lastYear is the last one there is; the first is 1.
const lastYear = 9999

// Days is the number of a day.
func Days(year, month, day int) int {
	if !isDay(year, month, day) {
		return 0
	}
	return ahead(year) - ahead(1970) + aheadInYear(year, month) + day - 1
}

// Civil is the day with a number. The bounds are asked first, so that nothing wraps round behind them.
func Civil(days int) (int, int, int) {
	if !within(days, Days(1, 1, 1), Days(lastYear, 12, 31)) {
		return 0, 0, 0
	}
	left := days + ahead(1970)
	year := left/366 + 1 // no year is longer, so this one is not too late
	for ahead(year+1) <= left {
		year++
	}
	left -= ahead(year)
	month := 1
	for aheadInYear(year, month+1) <= left {
		month++
	}
	return year, month, left - aheadInYear(year, month) + 1
}

// isDay tells whether there is such a day.
func isDay(year, month, day int) bool {
	return within(year, 1, lastYear) && within(month, 1, 12) && within(day, 1, length(year, month))
}

func within(n, least, most int) bool { return n >= least && n <= most }

// ahead is how many days there are ahead of a year, from the year 1 on.
func ahead(year int) int {
	full := year - 1
	return full*365 + full/4 - full/100 + full/400
}

// aheadInYear is how many days a year has ahead of a month; ahead of a thirteenth it has all.
func aheadInYear(year, month int) int {
	days := 0
	for m := 1; m < month; m++ {
		days += length(year, m)
	}
	return days
}

// length is how many days a month has.
func length(year, month int) int {
	switch month {
	case 2:
		if leap(year) {
			return 29
		}
		return 28
	case 4, 6, 9, 11:
		return 30
	}
	return 31
}

func leap(year int) bool {
	return year%4 == 0 && year%100 != 0 || year%400 == 0
}
