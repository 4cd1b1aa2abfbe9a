package date_test

import (
	"math/rand"
	"strings"
	"testing"

	"haversack/api"
)

// P9.4

func TestMail(t *testing.T) {
	noSecond, noZone, first := example, example, example
	noSecond.Sec = 0
	noZone.Zone = 0
	first.Day = 1
	for _, c := range []struct {
		s      string
		wanted api.Date
	}{
		{"Wed, 17 Jul 1996 02:44:25 -0700", example},
		{"17 Jul 1996 02:44:25 -0700", example},
		{"Mon, 17 Jul 1996 02:44:25 -0700", example},
		{"wED, 17 jUL 1996 02:44:25 -0700", example},
		{"WED, 17 JUL 1996 02:44:25 -0700", example},
		{"wed, 17 jul 1996 02:44:25 -0700", example},
		{" Wed, 17 Jul 1996 02:44:25 -0700", example},
		{"Wed, 17 Jul 1996 02:44:25 -0700 ", example},
		{"\t \r\nWed,\t 17\r\n Jul \n\r1996\n02:44:25\r-0700\t\r\n ", example},
		{"Wed,\t17\tJul\t1996\t02:44:25\t-0700\t", example},
		{"Wed,\n17\nJul\n1996\n02:44:25\n-0700\n", example},
		{"Wed,\r17\rJul\r1996\r02:44:25\r-0700\r", example},
		{"   17   Jul   1996   02:44:25   -0700   ", example},
		{"Wed, 1 Jul 1996 02:44:25 -0700", first},
		{"Wed, 01 Jul 1996 02:44:25 -0700", first},
		{"1 Jul 1996 02:44:25 -0700", first},
		{"17 Jul 1996 02:44 -0700", noSecond},
		{"17 Jul 1996 02:44:00 -0700", noSecond},
		{"17 Jul 1996 02:44:25 +0000", noZone},
		{"17 Jul 1996 02:44:25 -0000", noZone},
		{"17 Jul 1996 02:44:25 GMT", noZone},
		{"17 Jul 1996 02:44:25 gmt", noZone},
		{"17 Jul 1996 02:44:25 gMt", noZone},
		{"17 Jul 1996 02:44:25 UT", noZone},
		{"17 Jul 1996 02:44:25 ut", noZone},
		{"17 Jul 1996 02:44:25 Ut\r\n", noZone},
		{"1 Jan 1970 00:00 UT", api.Date{Year: 1970, Month: 1, Day: 1}},
		{"1 Jan 0001 00:00:00 +2359", api.Date{Year: 1, Month: 1, Day: 1, Zone: 1439}},
		{"31 Dec 9999 23:59:59 -2359", api.Date{Year: 9999, Month: 12, Day: 31, Hour: 23, Min: 59, Sec: 59, Zone: -1439}},
		{"29 Feb 2000 00:00:59 -0030", api.Date{Year: 2000, Month: 2, Day: 29, Sec: 59, Zone: -30}},
		{"29 Feb 2000 00:59:00 +0059", api.Date{Year: 2000, Month: 2, Day: 29, Min: 59, Zone: 59}},
	} {
		wantMail(t, c.s, c.wanted)
	}
	for _, name := range dayNames {
		for _, letters := range []string{name, strings.ToLower(name), strings.ToUpper(name), strings.ToLower(name[:1]) + strings.ToUpper(name[1:])} {
			wantMail(t, letters+", 17 Jul 1996 02:44:25 -0700", example)
		}
	}
	for i, name := range monthNames {
		d := example
		d.Month = i + 1
		for _, letters := range []string{name, strings.ToLower(name), strings.ToUpper(name), name[:2] + strings.ToUpper(name[2:])} {
			wantMail(t, "17 "+letters+" 1996 02:44:25 -0700", d)
		}
	}
}

func TestMailOfWhatIsNone(t *testing.T) {
	for _, c := range []struct{ why, s string }{
		{"nothing", ""},
		{"a blank", " "},
		{"a day's name alone", "Wed,"},
		{"a day's name without its comma", "Wed 17 Jul 1996 02:44:25 -0700"},
		{"a blank ahead of the comma", "Wed , 17 Jul 1996 02:44:25 -0700"},
		{"no blank behind the comma", "Wed,17 Jul 1996 02:44:25 -0700"},
		{"two commas", "Wed,, 17 Jul 1996 02:44:25 -0700"},
		{"a comma alone", ", 17 Jul 1996 02:44:25 -0700"},
		{"two days' names", "Wed, Wed, 17 Jul 1996 02:44:25 -0700"},
		{"a day's whole name", "Wednesday, 17 Jul 1996 02:44:25 -0700"},
		{"two letters of a day's name", "We, 17 Jul 1996 02:44:25 -0700"},
		{"a day's name that is none", "Wex, 17 Jul 1996 02:44:25 -0700"},
		{"a month for a day's name", "Jul, 17 Jul 1996 02:44:25 -0700"},
		{"pieces of two days' names", "onT, 17 Jul 1996 02:44:25 -0700"},
		{"a day's name with letters that only look so", "\u017fun, 17 Jul 1996 02:44:25 -0700"},
		{"a point for the comma", "Wed. 17 Jul 1996 02:44:25 -0700"},
		{"the name behind the day", "17 Wed, Jul 1996 02:44:25 -0700"},
		{"no day", "Wed, Jul 1996 02:44:25 -0700"},
		{"no day", "Jul 1996 02:44:25 -0700"},
		{"three digits of a day", "017 Jul 1996 02:44:25 -0700"},
		{"three digits of a day", "Wed, 117 Jul 1996 02:44:25 -0700"},
		{"the day 0", "0 Jul 1996 02:44:25 -0700"},
		{"the day 00", "00 Jul 1996 02:44:25 -0700"},
		{"the day 32", "32 Jul 1996 02:44:25 -0700"},
		{"the 31st of a month with 30", "31 Jun 1996 02:44:25 -0700"},
		{"the 29th of February", "29 Feb 1995 02:44:25 -0700"},
		{"the 29th of February, 100", "29 Feb 1900 02:44:25 -0700"},
		{"a comma behind the day", "17, Jul 1996 02:44:25 -0700"},
		{"no blank behind the day", "17Jul 1996 02:44:25 -0700"},
		{"- behind the day", "17-Jul-1996 02:44:25 -0700"},
		{"a month that is none", "17 Jux 1996 02:44:25 -0700"},
		{"a day's name for a month", "17 Wed 1996 02:44:25 -0700"},
		{"a month's whole name", "17 July 1996 02:44:25 -0700"},
		{"a month as a number", "17 07 1996 02:44:25 -0700"},
		{"no blank behind the month", "17 Jul1996 02:44:25 -0700"},
		{"no month", "17 1996 02:44:25 -0700"},
		{"two digits of a year", "17 Jul 96 02:44:25 -0700"},
		{"three digits of a year", "17 Jul 996 02:44:25 -0700"},
		{"five digits of a year", "17 Jul 19960 02:44:25 -0700"},
		{"five digits of a year", "17 Jul 01996 02:44:25 -0700"},
		{"the year 0", "17 Jul 0000 02:44:25 -0700"},
		{"no year", "17 Jul 02:44:25 -0700"},
		{"no blank behind the year", "17 Jul 199602:44:25 -0700"},
		{"no time", "17 Jul 1996 -0700"},
		{"one digit of an hour", "17 Jul 1996 2:44:25 -0700"},
		{"three digits of an hour", "17 Jul 1996 002:44:25 -0700"},
		{"one digit of a minute", "17 Jul 1996 02:4:25 -0700"},
		{"three digits of a minute", "17 Jul 1996 02:440:25 -0700"},
		{"one digit of a second", "17 Jul 1996 02:44:5 -0700"},
		{"three digits of a second", "17 Jul 1996 02:44:025 -0700"},
		{"no second behind its :", "17 Jul 1996 02:44: -0700"},
		{"no minute", "17 Jul 1996 02 -0700"},
		{"no minute behind its :", "17 Jul 1996 02: -0700"},
		{"a third :", "17 Jul 1996 02:44:25:00 -0700"},
		{"parts of a second", "17 Jul 1996 02:44:25.5 -0700"},
		{"blanks around :", "17 Jul 1996 02 : 44 : 25 -0700"},
		{"a blank behind :", "17 Jul 1996 02: 44:25 -0700"},
		{"a blank ahead of the second's :", "17 Jul 1996 02:44 :25 -0700"},
		{"points for :", "17 Jul 1996 02.44.25 -0700"},
		{"the hour 24", "17 Jul 1996 24:00:00 -0700"},
		{"the minute 60", "17 Jul 1996 02:60:25 -0700"},
		{"the second 60", "17 Jul 1996 02:44:60 -0700"},
		{"no zone", "17 Jul 1996 02:44:25"},
		{"no zone behind a blank", "17 Jul 1996 02:44:25 "},
		{"no blank ahead of the zone", "17 Jul 1996 02:44:25-0700"},
		{"no blank ahead of GMT", "17 Jul 1996 02:44:25GMT"},
		{"a zone without a sign", "17 Jul 1996 02:44:25 0700"},
		{"a sign alone", "17 Jul 1996 02:44:25 +"},
		{"a blank behind a sign", "17 Jul 1996 02:44:25 - 0700"},
		{"two signs", "17 Jul 1996 02:44:25 +-0700"},
		{"two digits of a zone", "17 Jul 1996 02:44:25 -07"},
		{"three digits of a zone", "17 Jul 1996 02:44:25 -070"},
		{"five digits of a zone", "17 Jul 1996 02:44:25 -07000"},
		{"a : in the zone", "17 Jul 1996 02:44:25 -07:00"},
		{"hours of a zone", "17 Jul 1996 02:44:25 +2400"},
		{"hours of a zone", "17 Jul 1996 02:44:25 -2400"},
		{"hours of a zone", "17 Jul 1996 02:44:25 -9900"},
		{"minutes of a zone", "17 Jul 1996 02:44:25 +0060"},
		{"minutes of a zone", "17 Jul 1996 02:44:25 -0760"},
		{"minutes of a zone", "17 Jul 1996 02:44:25 -2299"},
		{"UTC", "17 Jul 1996 02:44:25 UTC"},
		{"Z", "17 Jul 1996 02:44:25 Z"},
		{"EST", "17 Jul 1996 02:44:25 EST"},
		{"GM", "17 Jul 1996 02:44:25 GM"},
		{"GMT with more", "17 Jul 1996 02:44:25 GMT+1"},
		{"GMT ahead of a zone", "17 Jul 1996 02:44:25 GMT +0100"},
		{"two zones", "17 Jul 1996 02:44:25 -0700 -0700"},
		{"a remark behind", "17 Jul 1996 02:44:25 -0700 (PDT)"},
		{"a byte 0 behind", "17 Jul 1996 02:44:25 -0700\x00"},
		{"a byte 11 for a blank", "17\x0bJul 1996 02:44:25 -0700"},
		{"a byte 12 for a blank", "17 Jul\x0c1996 02:44:25 -0700"},
		{"a byte 160 for a blank", "17 Jul 1996\xa002:44:25 -0700"},
		{"a wide blank", "17 Jul 1996 02:44:25\u2003-0700"},
		{"a byte 12 ahead", "\x0c17 Jul 1996 02:44:25 -0700"},
		{"a byte 11 behind", "17 Jul 1996 02:44:25 -0700\x0b"},
		{"quotes", "\"17 Jul 1996 02:44:25 -0700\""},
		{"the month first", "Wed Jul 17 02:44:25 1996"},
		{"the text twice", "17 Jul 1996 02:44:25 -0700 17 Jul 1996 02:44:25 -0700"},
		{"the year first", "1996 Jul 17 02:44:25 -0700"},
	} {
		refusedMail(t, c.s, c.why)
	}
}

// Each piece of a text is one of some that may stand there and some that may not, with blanks between or none: read as the slow reader does.
func TestPiecesOfMail(t *testing.T) {
	r := rand.New(rand.NewSource(4))
	one := func(l ...string) string { return l[r.Intn(len(l))] }
	gap := func() string {
		if r.Intn(12) == 0 {
			return one("", ",", "\x0b", "-")
		}
		return one(" ", " ", " ", "\t", "\r\n ", "  ", "\n")
	}
	taken := 0
	for range 200000 {
		s := one("", "", " ", "\r\n\t")
		if r.Intn(2) == 0 {
			s += one("Mon", "tue", "WED", "Thu", "fRi", "Sat", "sun", "Sonn") + one(",", ",", ",", ",", " ,", "") + gap()
		}
		s += one("1", "7", "07", "17", "28", "29", "30", "31", "0", "32", "007") + gap()
		s += one("Jan", "feb", "FEB", "mAR", "Apr", "may", "Jun", "jul", "Aug", "SEP", "oct", "Nov", "Dec", "Foo") + gap()
		s += one("1996", "1995", "1900", "2000", "0001", "9999", "0000", "96", "10000") + gap()
		s += one("00", "02", "23", "23", "09", "24", "2") + one(":", ":", ":", ":", ".") + one("00", "44", "59", "60") + one("", ":00", ":25", ":59", ":60", ":")
		s += gap() + one("+0000", "-0000", "-0700", "+2359", "-2359", "-0030", "+0060", "+2400", "GMT", "gmt", "UT", "Ut", "UTC", "0000") + one("", "", " ", "\r\n", "x")
		taken += asSlow(t, s)
	}
	if taken < 5000 {
		t.Fatalf("just %d were taken", taken)
	}
}
