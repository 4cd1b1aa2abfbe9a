package date

import (
	"strconv"
	"strings"

	"haversack/api"
)

// The names, each of three letters, one behind the other.
const (
	months   = "JanFebMarAprMayJunJulAugSepOctNovDec"
	weekdays = "MonTueWedThuFriSatSun"
)

// Print tells one.
func Print(d api.Date) string {
	if !Right(d) {
		return ""
	}
	day := digits(d.Day, 2)
	if day[0] == '0' {
		day = " " + day[1:]
	}
	month := months[3*d.Month-3 : 3*d.Month]
	clock := digits(d.Hour, 2) + ":" + digits(d.Min, 2) + ":" + digits(d.Sec, 2)
	return day + "-" + month + "-" + digits(d.Year, 4) + " " + clock + " " + zoned(d.Zone)
}

// digits is a number with noughts ahead.
func digits(n, wide int) string {
	s := strconv.Itoa(n)
	return strings.Repeat("0", max(0, wide-len(s))) + s
}

// zoned is a zone as it is told: the sign stands ahead of hours and minutes alike, so it is taken off first.
func zoned(zone int) string {
	if zone < 0 {
		return "-" + digits(-zone/60, 2) + digits(-zone%60, 2)
	}
	return "+" + digits(zone/60, 2) + digits(zone%60, 2)
}

// Internal reads a date as Print tells it. A date has one such text alone: so what was read, however loosely, is held against Print.
func Internal(s string) (api.Date, api.Errno) {
	d, e := read(s, (*reader).internal)
	if e != api.OK || Print(d) != s {
		return api.Date{}, api.ErrForm
	}
	return d, api.OK
}

// Mail reads a date of a header line.
func Mail(s string) (api.Date, api.Errno) {
	return read(s, (*reader).mail)
}

// Day reads a day: its number.
func Day(s string) (int, api.Errno) {
	d, e := read(s, (*reader).day)
	return Days(d.Year, d.Month, d.Day), e
}
