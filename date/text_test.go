package date_test

import (
	"math/rand"
	"strings"
	"testing"

	"haversack/api"
	"haversack/date"
)

func wantPrint(t *testing.T, d api.Date, wanted string) {
	t.Helper()
	if got := date.Print(d); got != wanted {
		t.Fatalf("Print(%v) = %q; want %q", d, got, wanted)
	}
}

// P9.3

func TestPrintAndInternal(t *testing.T) {
	at := func(year, month, day, hour, min, sec, zone int) api.Date {
		return api.Date{Year: year, Month: month, Day: day, Hour: hour, Min: min, Sec: sec, Zone: zone}
	}
	for _, c := range []struct {
		d api.Date
		s string
	}{
		{example, "17-Jul-1996 02:44:25 -0700"},
		{at(1996, 7, 1, 2, 44, 25, 0), " 1-Jul-1996 02:44:25 +0000"},
		{at(1996, 7, 9, 2, 44, 25, 0), " 9-Jul-1996 02:44:25 +0000"},
		{at(1996, 7, 10, 2, 44, 25, 0), "10-Jul-1996 02:44:25 +0000"},
		{at(1996, 7, 20, 0, 0, 0, 0), "20-Jul-1996 00:00:00 +0000"},
		{at(1996, 7, 31, 23, 59, 59, 1439), "31-Jul-1996 23:59:59 +2359"},
		{at(1996, 7, 31, 23, 59, 59, -1439), "31-Jul-1996 23:59:59 -2359"},
		{at(1996, 2, 29, 9, 9, 9, 1), "29-Feb-1996 09:09:09 +0001"},
		{at(1996, 2, 29, 10, 10, 10, -1), "29-Feb-1996 10:10:10 -0001"},
		{at(1996, 2, 29, 0, 0, 1, -30), "29-Feb-1996 00:00:01 -0030"},
		{at(1996, 2, 29, 0, 1, 0, -59), "29-Feb-1996 00:01:00 -0059"},
		{at(1996, 2, 29, 1, 0, 0, -60), "29-Feb-1996 01:00:00 -0100"},
		{at(1996, 2, 29, 1, 0, 0, -61), "29-Feb-1996 01:00:00 -0101"},
		{at(1996, 2, 29, 1, 0, 0, 59), "29-Feb-1996 01:00:00 +0059"},
		{at(1996, 2, 29, 1, 0, 0, 600), "29-Feb-1996 01:00:00 +1000"},
		{at(1996, 2, 29, 1, 0, 0, -630), "29-Feb-1996 01:00:00 -1030"},
		{at(1, 1, 1, 0, 0, 0, 0), " 1-Jan-0001 00:00:00 +0000"},
		{at(1, 1, 1, 0, 0, 0, 1439), " 1-Jan-0001 00:00:00 +2359"},
		{at(10, 1, 1, 0, 0, 0, 0), " 1-Jan-0010 00:00:00 +0000"},
		{at(999, 1, 1, 0, 0, 0, 0), " 1-Jan-0999 00:00:00 +0000"},
		{at(1000, 1, 1, 0, 0, 0, 0), " 1-Jan-1000 00:00:00 +0000"},
		{at(9999, 12, 31, 23, 59, 59, -1439), "31-Dec-9999 23:59:59 -2359"},
	} {
		wantPrint(t, c.d, c.s)
		wantInternal(t, c.s, c.d)
	}
	for i, name := range monthNames {
		d := at(2000, i+1, 2, 3, 4, 5, 6)
		wantPrint(t, d, " 2-"+name+"-2000 03:04:05 +0006")
		wantInternal(t, " 2-"+name+"-2000 03:04:05 +0006", d)
	}
}

func TestInternalOfWhatPrintDoesNotTell(t *testing.T) {
	for _, c := range []struct{ why, s string }{
		{"nothing", ""},
		{"a blank", " "},
		{"a digit 0 first", "07-Jul-1996 02:44:25 -0700"},
		{"one byte of a day", "7-Jul-1996 02:44:25 -0700"},
		{"two blanks ahead of a day", "  7-Jul-1996 02:44:25 -0700"},
		{"a blank ahead of two digits", " 17-Jul-1996 02:44:25 -0700"},
		{"a byte 9 for the blank", "\t7-Jul-1996 02:44:25 -0700"},
		{"a line end for the blank", "\n7-Jul-1996 02:44:25 -0700"},
		{"the day 0", " 0-Jul-1996 02:44:25 -0700"},
		{"the day 00", "00-Jul-1996 02:44:25 -0700"},
		{"the day 32", "32-Jul-1996 02:44:25 -0700"},
		{"the 31st of a month with 30", "31-Jun-1996 02:44:25 -0700"},
		{"the 29th of February", "29-Feb-1995 02:44:25 -0700"},
		{"the 29th of February, 100", "29-Feb-1900 02:44:25 -0700"},
		{"the 30th of February", "30-Feb-1996 02:44:25 -0700"},
		{"three digits of a day", "117-Jul-1996 02:44:25 -0700"},
		{"the month in small letters", "17-jul-1996 02:44:25 -0700"},
		{"the month in great letters", "17-JUL-1996 02:44:25 -0700"},
		{"a great letter in the month", "17-JuL-1996 02:44:25 -0700"},
		{"a month that is none", "17-Jux-1996 02:44:25 -0700"},
		{"pieces of two months", "17-anF-1996 02:44:25 -0700"},
		{"a month as a number", "17-07-1996 02:44:25 -0700"},
		{"a month's whole name", "17-July-1996 02:44:25 -0700"},
		{"no month", "17--1996 02:44:25 -0700"},
		{"the year 0", "17-Jul-0000 02:44:25 -0700"},
		{"two digits of a year", "17-Jul-96 02:44:25 -0700"},
		{"three digits of a year", "17-Jul-996 02:44:25 -0700"},
		{"five digits of a year", "17-Jul-19960 02:44:25 -0700"},
		{"five digits of a year", "17-Jul-10000 02:44:25 -0700"},
		{"a year below 0", "17-Jul--996 02:44:25 -0700"},
		{"blanks for -", "17 Jul 1996 02:44:25 -0700"},
		{"two blanks behind the year", "17-Jul-1996  02:44:25 -0700"},
		{"two blanks ahead of the zone", "17-Jul-1996 02:44:25  -0700"},
		{"no blank ahead of the zone", "17-Jul-1996 02:44:25-0700"},
		{"a byte 9 behind the year", "17-Jul-1996\t02:44:25 -0700"},
		{"a byte 9 ahead of the zone", "17-Jul-1996 02:44:25\t-0700"},
		{"the hour 24", "17-Jul-1996 24:44:25 -0700"},
		{"the minute 60", "17-Jul-1996 02:60:25 -0700"},
		{"the second 60", "17-Jul-1996 02:44:60 -0700"},
		{"one digit of an hour", "17-Jul-1996 2:44:25 -0700"},
		{"a blank for a digit of an hour", "17-Jul-1996  2:44:25 -0700"},
		{"one digit of a minute", "17-Jul-1996 02:4:25 -0700"},
		{"no second", "17-Jul-1996 02:44 -0700"},
		{"no time", "17-Jul-1996 -0700"},
		{"no zone", "17-Jul-1996 02:44:25"},
		{"no zone behind the blank", "17-Jul-1996 02:44:25 "},
		{"the zone -0000", "17-Jul-1996 02:44:25 -0000"},
		{"GMT", "17-Jul-1996 02:44:25 GMT"},
		{"UT", "17-Jul-1996 02:44:25 UT"},
		{"hours of a zone", "17-Jul-1996 02:44:25 -2400"},
		{"hours of a zone", "17-Jul-1996 02:44:25 +2400"},
		{"minutes of a zone", "17-Jul-1996 02:44:25 -0760"},
		{"minutes of a zone", "17-Jul-1996 02:44:25 +0060"},
		{"a zone of 9999", "17-Jul-1996 02:44:25 +9999"},
		{"a zone without a sign", "17-Jul-1996 02:44:25 0700"},
		{"a zone with another sign", "17-Jul-1996 02:44:25 ~0700"},
		{"three digits of a zone", "17-Jul-1996 02:44:25 -070"},
		{"five digits of a zone", "17-Jul-1996 02:44:25 -07000"},
		{"a : in the zone", "17-Jul-1996 02:44:25 -07:00"},
		{"a blank behind", "17-Jul-1996 02:44:25 -0700 "},
		{"a line end behind", "17-Jul-1996 02:44:25 -0700\r\n"},
		{"a byte 0 behind", "17-Jul-1996 02:44:25 -0700\x00"},
		{"a blank ahead", " 17-Jul-1996 02:44:25 -0700"},
		{"a day's name", "Wed, 17-Jul-1996 02:44:25 -0700"},
		{"quotes", "\"17-Jul-1996 02:44:25 -0700\""},
		{"the text twice", "17-Jul-1996 02:44:25 -070017-Jul-1996 02:44:25 -0700"},
	} {
		refusedInternal(t, c.s, c.why)
	}
}

// Texts of Print, of Mail and of Day, and what is near to them: read as the slow reader does.
func TestNearTexts(t *testing.T) {
	for _, c := range []struct {
		s     string
		taken int
	}{
		{"17-Jul-1996 02:44:25 -0700", 100},
		{" 1-Jan-0001 00:00:00 +0000", 100},
		{"31-Dec-9999 23:59:59 -2359", 100},
		{"29-Feb-2000 19:09:10 -0001", 100},
		{"Wed, 17 Jul 1996 02:44:25 -0700", 100},
		{" sUN,\t1\r\nmar 2000  00:00 gmt ", 100},
		{"9 May 1970 20:30 UT", 50},
		{"29 FEB 1996 23:59:59 -0000", 100},
		{"1-feb-1994", 40},
		{"29-FEB-1996", 40},
		{"01-Jan-1970", 40},
		{"31-sep-0001", 1},
	} {
		taken := 0
		eachNear(c.s, func(near string) { taken += asSlow(t, near) })
		if taken < c.taken {
			t.Fatalf("just %d texts near to %q were taken", taken, c.s)
		}
	}
}

// P9.8

func TestInternalOfPrint(t *testing.T) {
	r := rand.New(rand.NewSource(3))
	for range 100000 {
		d := rightDate(r)
		s := date.Print(d)
		if slow := slowTime(d).Format("_2-Jan-2006 15:04:05 -0700"); s != slow || len(s) != 26 {
			t.Fatalf("Print(%v) = %q; want %q", d, s, slow)
		}
		wantInternal(t, s, d)
	}
	for zone := -1439; zone <= 1439; zone++ {
		d := example
		d.Zone = zone
		wantInternal(t, date.Print(d), d)
	}
}

// P9.9: a blank for each - of the day; that of a zone is its sign.
func TestMailOfPrint(t *testing.T) {
	r := rand.New(rand.NewSource(9))
	for range 100000 {
		d := rightDate(r)
		wantMail(t, strings.Replace(date.Print(d), "-", " ", 2), d)
	}
	for zone := -1439; zone <= 1439; zone++ {
		d := example
		d.Zone = zone
		wantMail(t, strings.Replace(date.Print(d), "-", " ", 2), d)
	}
	wantMail(t, "17 Jul 1996 02:44:25 -0700", example)
}

// P9.5

func TestDay(t *testing.T) {
	for _, c := range []struct {
		s    string
		days int
	}{
		{"1-feb-1994", 8797},
		{"01-feb-1994", 8797},
		{"1-Feb-1994", 8797},
		{"1-FEB-1994", 8797},
		{"01-fEb-1994", 8797},
		{"17-Jul-1996", 9694},
		{"1-Jan-1970", 0},
		{"01-JAN-1970", 0},
		{"2-jan-1970", 1},
		{"31-Dec-1969", -1},
		{"9-Sep-2001", 11574},
		{"09-Sep-2001", 11574},
		{"29-Feb-1996", 9555},
		{"29-Feb-2000", 11016},
		{"1-Jan-0001", firstDay},
		{"31-Dec-9999", lastDay},
	} {
		wantDay(t, c.s, c.days)
	}
	for i, name := range monthNames {
		for _, letters := range []string{name, strings.ToLower(name), strings.ToUpper(name), name[:2] + strings.ToUpper(name[2:])} {
			wantDay(t, "3-"+letters+"-2001", slowDays(2001, i+1, 3))
		}
	}
}

func TestDayOfWhatIsNone(t *testing.T) {
	for _, c := range []struct{ why, s string }{
		{"nothing", ""},
		{"the day 0", "0-Feb-1994"},
		{"the day 00", "00-Feb-1994"},
		{"the day 0 of January 1970", "0-Jan-1970"},
		{"the day 32", "32-Jan-1994"},
		{"the day 99", "99-Jan-1994"},
		{"the 29th of February", "29-Feb-1994"},
		{"the 29th of February, 100", "29-Feb-1900"},
		{"the 29th of February, 0", "29-Feb-0000"},
		{"the 30th of February", "30-Feb-2000"},
		{"the 31st of a month with 30", "31-Apr-1994"},
		{"the year 0", "1-Feb-0000"},
		{"two digits of a year", "1-Feb-94"},
		{"three digits of a year", "1-Feb-994"},
		{"five digits of a year", "1-Feb-19940"},
		{"five digits of a year", "1-Feb-01994"},
		{"no year", "1-Feb-"},
		{"no year", "1-Feb"},
		{"three digits of a day", "001-Feb-1994"},
		{"no digit of a day", "-Feb-1994"},
		{"a sign ahead", "+1-Feb-1994"},
		{"a sign ahead", "-1-Feb-1994"},
		{"a month that is none", "1-Fab-1994"},
		{"a month's whole name", "1-February-1994"},
		{"two letters of a month", "1-Fe-1994"},
		{"a month as a number", "1-2-1994"},
		{"a month with letters that only look so", "1-\u017fep-1994"},
		{"a month with letters that only look so", "1-O\u212at-1994"},
		{"no month", "1--1994"},
		{"blanks for -", "1 Feb 1994"},
		{"a blank ahead", " 1-Feb-1994"},
		{"a blank behind", "1-Feb-1994 "},
		{"blanks around -", "1 -Feb- 1994"},
		{"a line end behind", "1-Feb-1994\r\n"},
		{"a time behind", "1-Feb-1994 00:00:00 +0000"},
		{"quotes", "\"1-Feb-1994\""},
		{"other digits", "\u0661-Feb-1994"},
		{"a month first", "Feb-1-1994"},
		{"a year first", "1994-Feb-1"},
	} {
		refusedDay(t, c.s, c.why)
	}
}

// Each day of some years, and those that there are not; P1 and P2: the same again.
func TestEachTextOfADay(t *testing.T) {
	for _, year := range []string{"0000", "0001", "0004", "0100", "0400", "1900", "1969", "1970", "1972", "2000", "9999"} {
		for _, month := range append([]string{"Xxx", "jAN", "sep"}, monthNames...) {
			for day := range 100 {
				digits := string([]byte{'0' + byte(day/10), '0' + byte(day%10)})
				asSlow(t, digits+"-"+month+"-"+year)
				asSlow(t, strings.TrimPrefix(digits, "0")+"-"+month+"-"+year)
				asSlow(t, digits+" "+month+" "+year+" 00:00 UT")
				asSlow(t, strings.Replace(digits, "0", " ", 1)+"-"+month+"-"+year+" 00:00:00 +0000")
			}
		}
	}
}

// P1: whatever the bytes are, every call ends, and with an error there is nothing else; and each answers the same again.
func TestAnyTexts(t *testing.T) {
	r := rand.New(rand.NewSource(1))
	pieces := []string{"17", "1", "0", "00", "31", "1996", "0001", "9999", "Jul", "feb", "DEC", "-", "-", "+", ":", ":", "02", "59", "60", "Wed", "sun,", ",", " ", " ", "\t", "\r\n", "GMT", "ut", "-0700", "+2359", "-0000", "\x00", "\xff", "é"}
	for range 100000 {
		var s strings.Builder
		for range r.Intn(14) {
			s.WriteString(pieces[r.Intn(len(pieces))])
		}
		asSlow(t, s.String())
		asSlow(t, s.String())
	}
}

func TestLongTexts(t *testing.T) {
	const many = 1000000
	for _, piece := range []string{" ", "1", "-", "Wed,", "Wed, ", "Jul", "17 ", "17-Jul-1996 02:44:25 -0700", "\x00", "\r\n"} {
		s := strings.Repeat(piece, many)
		refusedInternal(t, s, "a long text")
		refusedMail(t, s, "a long text")
		refusedDay(t, s, "a long text")
	}
	gap := strings.Repeat(" \t\r\n", many)
	wantMail(t, gap+"Wed,"+gap+"17"+gap+"Jul"+gap+"1996"+gap+"02:44:25"+gap+"-0700"+gap, example)
}
