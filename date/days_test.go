package date_test

import (
	"math"
	"testing"
	"time"

	"haversack/date"
)

// The numbers of the first and the last day there is.
const (
	firstDay = -719162
	lastDay  = 2932896
)

func wantDays(t *testing.T, year, month, day, wanted int) {
	t.Helper()
	if got := date.Days(year, month, day); got != wanted {
		t.Fatalf("Days(%d, %d, %d) = %d; want %d", year, month, day, got, wanted)
	}
}

func wantCivil(t *testing.T, days, year, month, day int) {
	t.Helper()
	if y, m, d := date.Civil(days); y != year || m != month || d != day {
		t.Fatalf("Civil(%d) = %d, %d, %d; want %d, %d, %d", days, y, m, d, year, month, day)
	}
}

// slowDays is the library's.
func slowDays(year, month, day int) int {
	return int(time.Date(year, time.Month(month), day, 0, 0, 0, 0, time.UTC).Unix() / 86400)
}

// slowIsDay asks the library, which makes another day of one that there is not.
func slowIsDay(year, month, day int) bool {
	if year < 1 || year > 9999 || month < 1 || month > 12 || day < 1 || day > 31 {
		return false
	}
	return time.Date(year, time.Month(month), day, 0, 0, 0, 0, time.UTC).Day() == day
}

// P9.1

func TestDaysAndCivil(t *testing.T) {
	for _, c := range []struct{ year, month, day, days int }{
		{1996, 7, 17, 9694},
		{1994, 2, 1, 8797},
		{1970, 1, 1, 0},
		{1970, 1, 2, 1},
		{1970, 1, 31, 30},
		{1970, 2, 1, 31},
		{1970, 12, 31, 364},
		{1971, 1, 1, 365},
		{1969, 12, 31, -1},
		{1969, 12, 30, -2},
		{1969, 1, 1, -365},
		{1968, 12, 31, -366},
		{1968, 2, 29, -672},
		{1972, 2, 28, 788},
		{1972, 2, 29, 789},
		{1972, 3, 1, 790},
		{2000, 2, 29, 11016},
		{2000, 3, 1, 11017},
		{1900, 2, 28, -25509},
		{1900, 3, 1, -25508},
		{2001, 9, 9, 11574},
		{2038, 1, 19, 24855},
		{1600, 1, 1, -135140},
		{4, 2, 29, firstDay + 3*365 + 59},
		{400, 12, 31, firstDay + 146097 - 1},
		{401, 1, 1, firstDay + 146097},
		{1, 1, 1, firstDay},
		{1, 1, 2, firstDay + 1},
		{1, 12, 31, firstDay + 364},
		{2, 1, 1, firstDay + 365},
		{9999, 12, 31, lastDay},
		{9999, 12, 30, lastDay - 1},
		{9999, 1, 1, lastDay - 364},
		{9998, 12, 31, lastDay - 365},
	} {
		wantDays(t, c.year, c.month, c.day, c.days)
		wantCivil(t, c.days, c.year, c.month, c.day)
	}
}

func TestDaysThatThereAreNot(t *testing.T) {
	for _, c := range []struct{ year, month, day int }{
		{0, 1, 1}, {0, 12, 31}, {0, 2, 29}, {-1, 1, 1}, {-1970, 1, 1}, {-4, 2, 29},
		{10000, 1, 1}, {10000, 12, 31}, {10001, 1, 1}, {20000, 2, 29},
		{1996, 0, 1}, {1996, 13, 1}, {1996, -1, 1}, {1996, 14, 1}, {1996, -12, 1}, {1996, 0, 31},
		{1996, 7, 0}, {1996, 7, -1}, {1996, 7, 32}, {1996, 7, 100},
		{1996, 2, 30}, {1995, 2, 29}, {1900, 2, 29}, {2100, 2, 29}, {100, 2, 29}, {9900, 2, 29}, {2000, 2, 30},
		{0, 0, 0}, {10000, 13, 32}, {0, 13, 1}, {1996, 0, 0},
		{math.MaxInt, 1, 1}, {math.MinInt, 1, 1}, {1996, math.MaxInt, 1}, {1996, math.MinInt, 1},
		{1996, 7, math.MaxInt}, {1996, 7, math.MinInt}, {1996, 2, math.MaxInt}, {1996, 4, math.MinInt},
		{math.MaxInt, math.MaxInt, math.MaxInt}, {math.MinInt, math.MinInt, math.MinInt},
		{math.MaxInt32 + 1, 1, 1}, {1<<32 + 1996, 7, 17}, {1996, 1<<32 + 7, 17}, {1996, 7, 1<<32 + 17},
		{1<<16 + 1996, 7, 17}, {1996, 256 + 7, 17}, {1996, 7, 256 + 17},
	} {
		wantDays(t, c.year, c.month, c.day, 0)
	}
}

func TestNumbersOfNoDay(t *testing.T) {
	for _, days := range []int{
		firstDay - 1, firstDay - 2, firstDay - 365, firstDay - 366, firstDay - 146097, 10 * firstDay,
		lastDay + 1, lastDay + 2, lastDay + 365, lastDay + 366, lastDay + 146097, 10 * lastDay,
		math.MaxInt, math.MaxInt - 1, math.MaxInt + firstDay, math.MaxInt + firstDay + 1, math.MaxInt / 86400,
		math.MinInt, math.MinInt + 1, math.MinInt - firstDay, math.MinInt - firstDay - 1, math.MinInt / 86400,
		math.MaxInt32, math.MinInt32, 1 << 32, -1 << 32, 1<<32 + 9694, -1<<32 + 9694,
	} {
		wantCivil(t, days, 0, 0, 0)
	}
}

// Each month of each year, from the day ahead of its first one to days behind its last one.
func TestEachMonth(t *testing.T) {
	for year := -1; year <= 10001; year++ {
		for month := 0; month <= 13; month++ {
			for _, day := range []int{0, 1, 2, 27, 28, 29, 30, 31, 32} {
				wanted := 0
				if slowIsDay(year, month, day) {
					wanted = slowDays(year, month, day)
				}
				wantDays(t, year, month, day, wanted)
			}
		}
	}
}

func TestLeapYears(t *testing.T) {
	count := 0
	for year := 1; year <= 9999; year++ {
		leap := year%4 == 0 && (year%100 != 0 || year%400 == 0)
		is := date.Days(year, 2, 29) != 0
		if is != leap {
			t.Fatalf("has the year %d a 29th of February? %v", year, is)
		}
		if is {
			count++
		}
		if length := date.Days(year, 12, 31) - date.Days(year, 1, 1) + 1; length != 365 && !leap || length != 366 && leap {
			t.Fatalf("the year %d has %d days", year, length)
		}
	}
	if count != 2424 {
		t.Fatalf("%d years have one", count)
	}
}

// P9.7: all days there are, one behind the other.
func TestEachDay(t *testing.T) {
	number := firstDay
	at := time.Date(1, 1, 1, 0, 0, 0, 0, time.UTC)
	for year := 1; year <= 9999; year++ {
		for month := 1; month <= 12; month++ {
			last := at.AddDate(0, 1, -1).Day()
			for day := 1; day <= last; day++ {
				wantDays(t, year, month, day, number)
				wantCivil(t, number, year, month, day)
				number++
			}
			at = at.AddDate(0, 1, 0)
		}
	}
	if number != lastDay+1 {
		t.Fatalf("the number behind the last day is %d", number)
	}
}
