package search_test

import (
	"math"
	"testing"

	"haversack/api"
	"haversack/date"
)

// P16.3, of keys that are about days.

// wantDay: a message lies just so about a day; ahead is what stands ahead of the keys' words.
func wantDay(t *testing.T, why, ahead string, p place, day int) {
	t.Helper()
	for _, n := range append([]int{day - 1, day, day + 1, -day}, edges...) {
		wantMatch(t, why, counted(ahead+"BEFORE", n), p, day < n)
		wantMatch(t, why, counted(ahead+"ON", n), p, day == n)
		wantMatch(t, why, counted(ahead+"SINCE", n), p, day >= n)
	}
}

// wantNoDay: a message has none that a key is about.
func wantNoDay(t *testing.T, why string, p place) {
	t.Helper()
	for _, n := range append([]int{9694, date.Days(1, 1, 1), date.Days(9999, 12, 31)}, edges...) {
		for _, word := range []string{"SENTBEFORE", "SENTON", "SENTSINCE"} {
			wantMatch(t, why, counted(word, n), p, false)
		}
	}
}

var someDays = []api.Date{
	{Year: 1996, Month: 7, Day: 17}, {Year: 1970, Month: 1, Day: 1}, {Year: 1969, Month: 12, Day: 31}, {Year: 1970, Month: 1, Day: 2}, {Year: 2000, Month: 2, Day: 29}, {Year: 1900, Month: 3, Day: 1}, {Year: 1, Month: 1, Day: 1}, {Year: 9999, Month: 12, Day: 31}, {Year: 1601, Month: 10, Day: 9},
}

// The day is the one that its zone has, at whatever time.
func TestDays(t *testing.T) {
	for _, d := range someDays {
		for _, time := range [][4]int{{0, 0, 0, 0}, {23, 59, 59, 0}, {0, 0, 0, 1439}, {23, 59, 59, -1439}, {12, 30, 5, -420}} {
			d.Hour, d.Min, d.Sec, d.Zone = time[0], time[1], time[2], time[3]
			wantDay(t, "a day", "", place{api.Mail{Date: d}, 1, 1, 1}, date.Days(d.Year, d.Month, d.Day))
		}
	}
	wantDay(t, "the field date is none of it", "", place{api.Mail{Date: someDays[0], Text: "Date: 1 Feb 1994 00:00 +0000"}, 1, 1, 1}, 9694)
}

// A day that there is not has the number 0.
func TestDaysThatAreNone(t *testing.T) {
	for _, d := range []api.Date{{}, {Year: 1996, Month: 2, Day: 30}, {Year: 1996, Month: 13, Day: 1}, {Year: 10000, Month: 1, Day: 1}, {Year: -1, Month: 1, Day: 1}, {Year: math.MinInt, Month: math.MaxInt, Day: math.MinInt}, {Year: 1996, Month: 7}} {
		wantDay(t, "no day", "", place{api.Mail{Date: d}, 1, 1, 1}, 0)
	}
	wantDay(t, "a day without a right time", "", place{api.Mail{Date: api.Date{Year: 1996, Month: 7, Day: 17, Hour: 24, Min: -1, Sec: math.MaxInt, Zone: 1440}}, 1, 1, 1}, 9694)
}

func TestSentDays(t *testing.T) {
	for _, d := range someDays {
		day := date.Days(d.Year, d.Month, d.Day)
		for _, time := range [][4]int{{0, 0, 0, 0}, {23, 59, 59, -1439}, {0, 0, 1, 1439}} {
			d.Hour, d.Min, d.Sec, d.Zone = time[0], time[1], time[2], time[3]
			text := date.Print(d)
			text = text[:2] + " " + text[3:6] + " " + text[7:]
			for _, name := range inLetters("date") {
				wantDay(t, "a day", "SENT", of(name+": "+text), day)
				wantDay(t, "a folded one", "SENT", of("x: y"+end+name+":"+text[:3]+end+"\t"+text[3:]+end+end), day)
			}
			wantDay(t, "the first one of several", "SENT", of("Date: "+text+end+"Date: 1 Feb 1994 00:00 +0000"+end+"date: x"), day)
			wantDay(t, "its own Date is none of it", "SENT", place{api.Mail{Date: api.Date{Year: 1994, Month: 2, Day: 1}, Text: "Date: " + text}, 1, 1, 1}, day)
		}
	}
	for _, value := range []string{"17 Jul 1996 02:44 GMT", "Wed, 17 jul 1996 02:44:25 -0700", "  Mon,  17 JUL 1996\t02:44:25 ut  ", "17" + end + " Jul" + end + "\t1996\n 02:44" + end + " +0000" + end + " "} {
		wantDay(t, "as mail writes it", "SENT", of("Date: "+value+end+end+"x"), 9694)
	}
}

func TestSentDaysThatCantBeRead(t *testing.T) {
	right := "Date: 17 Jul 1996 02:44 GMT" + end
	for _, text := range []string{
		"", end, "x: y" + end, end + right, "x: y" + end + end + right, "xDate: 17 Jul 1996 02:44 GMT", "Date : 17 Jul 1996 02:44 GMT", " " + right, "x: y" + end + " " + right,
		"Date:" + end, "Date: x" + end, "Date: 17 Jul 1996" + end, "Date: 17 Jul 1996 02:44" + end, "Date: 17-Jul-1996 02:44:25 -0700" + end, "Date: 30 Feb 1996 02:44 GMT" + end, "Date: 17 Jul 1996 24:00 GMT" + end, "Date: 17 Jul 1996 02:44 GMT (x)" + end, "Date: =?utf-8?q?17_Jul_1996_02:44_GMT?=" + end, "Date: 17 Jul 0000 02:44 GMT" + end, "Sent-Date: 17 Jul 1996 02:44 GMT",
	} {
		p := of(text)
		p.Date = someDays[0]
		wantNoDay(t, "no day", p)
	}
	for _, wrong := range []string{"Date:" + end, "Date: x" + end, "date: 17 Jul 1996 24:00 GMT" + end} {
		wantNoDay(t, "the first one can't be read", of(wrong+right))
		wantDay(t, "the first one can be read", "SENT", of(right+wrong), 9694)
	}
}
