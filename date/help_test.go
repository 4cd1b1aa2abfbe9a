package date_test

import (
	"math/rand"
	"regexp"
	"strconv"
	"strings"
	"testing"
	"time"

	"haversack/api"
	"haversack/date"
)

var monthNames = []string{"Jan", "Feb", "Mar", "Apr", "May", "Jun", "Jul", "Aug", "Sep", "Oct", "Nov", "Dec"}

var dayNames = []string{"Mon", "Tue", "Wed", "Thu", "Fri", "Sat", "Sun"}

// example is the chapter's.
var example = api.Date{Year: 1996, Month: 7, Day: 17, Hour: 2, Min: 44, Sec: 25, Zone: -420}

// slowRight goes by the chapter's words, with the library's days.
func slowRight(d api.Date) bool {
	return slowIsDay(d.Year, d.Month, d.Day) && d.Hour >= 0 && d.Hour < 24 && d.Min >= 0 && d.Min < 60 && d.Sec >= 0 && d.Sec < 60 &&
		d.Zone > -24*60 && d.Zone < 24*60
}

// slowTime is a right date as the library has it.
func slowTime(d api.Date) time.Time {
	return time.Date(d.Year, time.Month(d.Month), d.Day, d.Hour, d.Min, d.Sec, 0, time.FixedZone("", 60*d.Zone))
}

// rightDate is one by chance, often at an edge.
func rightDate(r *rand.Rand) api.Date {
	some := func(least, most int) int {
		switch r.Intn(6) {
		case 0:
			return least
		case 1:
			return most
		}
		return least + r.Intn(most-least+1)
	}
	for {
		d := api.Date{
			Year: some(1, 9999), Month: some(1, 12), Day: some(1, 31),
			Hour: some(0, 23), Min: some(0, 59), Sec: some(0, 59), Zone: some(-1439, 1439),
		}
		if r.Intn(4) == 0 {
			d.Zone = r.Intn(121) - 60
		}
		if slowRight(d) {
			return d
		}
	}
}

// any3 is some names of three letters as a regular expression.
func any3(names []string) string { return "(" + strings.Join(names, "|") + ")" }

// The forms of texts, as the chapter has them. A day of Print has no digit 0 first.
var (
	formPrint = regexp.MustCompile(`\A( [1-9]|[1-9][0-9])-` + any3(monthNames) + `-([0-9]{4}) ([0-9]{2}):([0-9]{2}):([0-9]{2}) ([+-][0-9]{4})\z`)
	formMail  = regexp.MustCompile(`\A[\t\n\r ]*(?:(?i:` + any3(dayNames) + `),[\t\n\r ]+)?([0-9]{1,2})[\t\n\r ]+((?i:[a-z]{3}))[\t\n\r ]+([0-9]{4})[\t\n\r ]+([0-9]{2}):([0-9]{2})(?::([0-9]{2}))?[\t\n\r ]+([+-][0-9]{4}|[Gg][Mm][Tt]|[Uu][Tt])[\t\n\r ]*\z`)
	formDay   = regexp.MustCompile(`\A([0-9]{1,2})-([A-Za-z]{3})-([0-9]{4})\z`)
)

// slowNumber is a number of digits, with blanks ahead; of nothing it is 0.
func slowNumber(s string) int {
	n, _ := strconv.Atoi(strings.TrimLeft(s, " "))
	return n
}

// slowMonth is the place of a name, from 1 on, or 0. (Its letters are of ASCII.)
func slowMonth(s string) int {
	for i, name := range monthNames {
		if strings.EqualFold(name, s) {
			return i + 1
		}
	}
	return 0
}

func slowZone(s string) (int, bool) {
	if len(s) < 5 {
		return 0, true
	}
	hours, minutes := slowNumber(s[1:3]), slowNumber(s[3:])
	if hours > 23 || minutes > 59 {
		return 0, false
	}
	if s[0] == '-' {
		return -60*hours - minutes, true
	}
	return 60*hours + minutes, true
}

// slowDate puts pieces of a text together: the day, the month, the year, the hour, the minute, the second, the zone.
func slowDate(pieces []string) (api.Date, bool) {
	zone, is := slowZone(pieces[6])
	d := api.Date{
		Day: slowNumber(pieces[0]), Month: slowMonth(pieces[1]), Year: slowNumber(pieces[2]),
		Hour: slowNumber(pieces[3]), Min: slowNumber(pieces[4]), Sec: slowNumber(pieces[5]), Zone: zone,
	}
	if !is || !slowRight(d) {
		return api.Date{}, false
	}
	return d, true
}

func slowInternal(s string) (api.Date, bool) {
	pieces := formPrint.FindStringSubmatch(s)
	if pieces == nil || pieces[7] == "-0000" {
		return api.Date{}, false
	}
	return slowDate(pieces[1:])
}

func slowMail(s string) (api.Date, bool) {
	pieces := formMail.FindStringSubmatch(s)
	if pieces == nil {
		return api.Date{}, false
	}
	return slowDate(pieces[2:])
}

func slowDay(s string) (int, bool) {
	pieces := formDay.FindStringSubmatch(s)
	if pieces == nil {
		return 0, false
	}
	day, month, year := slowNumber(pieces[1]), slowMonth(pieces[2]), slowNumber(pieces[3])
	if !slowIsDay(year, month, day) {
		return 0, false
	}
	return slowDays(year, month, day), true
}

func wantInternal(t *testing.T, s string, wanted api.Date) {
	t.Helper()
	if d, e := date.Internal(s); d != wanted || e != api.OK {
		t.Fatalf("Internal(%q) = %v, %v; want %v", s, d, e, wanted)
	}
}

func refusedInternal(t *testing.T, s, why string) {
	t.Helper()
	if d, e := date.Internal(s); d != (api.Date{}) || e != api.ErrForm {
		t.Fatalf("%s: Internal(%q) = %v, %v; want none, and ErrForm", why, s, d, e)
	}
}

func wantMail(t *testing.T, s string, wanted api.Date) {
	t.Helper()
	if d, e := date.Mail(s); d != wanted || e != api.OK {
		t.Fatalf("Mail(%q) = %v, %v; want %v", s, d, e, wanted)
	}
}

func refusedMail(t *testing.T, s, why string) {
	t.Helper()
	if d, e := date.Mail(s); d != (api.Date{}) || e != api.ErrForm {
		t.Fatalf("%s: Mail(%q) = %v, %v; want none, and ErrForm", why, s, d, e)
	}
}

func wantDay(t *testing.T, s string, wanted int) {
	t.Helper()
	if n, e := date.Day(s); n != wanted || e != api.OK {
		t.Fatalf("Day(%q) = %d, %v; want %d", s, n, e, wanted)
	}
}

func refusedDay(t *testing.T, s, why string) {
	t.Helper()
	if n, e := date.Day(s); n != 0 || e != api.ErrForm {
		t.Fatalf("%s: Day(%q) = %d, %v; want 0, and ErrForm", why, s, n, e)
	}
}

// asSlow reads a text in all three ways, and tells how many of them took it.
func asSlow(t *testing.T, s string) int {
	t.Helper()
	taken := 0
	if d, is := slowInternal(s); is {
		taken++
		wantInternal(t, s, d)
	} else {
		refusedInternal(t, s, "as the slow reader")
	}
	if d, is := slowMail(s); is {
		taken++
		wantMail(t, s, d)
	} else {
		refusedMail(t, s, "as the slow reader")
	}
	if n, is := slowDay(s); is {
		taken++
		wantDay(t, s, n)
	} else {
		refusedDay(t, s, "as the slow reader")
	}
	return taken
}

// eachNear goes through a text's neighbours: with a byte of it another one, one more or one fewer, cut off, and with its other end alone.
func eachNear(s string, do func(string)) {
	for at := range len(s) + 1 {
		do(s[:at])
		do(s[at:])
		for b := range 256 {
			more := string([]byte{byte(b)})
			do(s[:at] + more + s[at:])
			if at < len(s) {
				do(s[:at] + more + s[at+1:])
			}
		}
		if at < len(s) {
			do(s[:at] + s[at+1:])
			do(s[:at] + strings.ToUpper(s[at:at+1]) + s[at+1:])
			do(s[:at] + strings.ToLower(s[at:at+1]) + s[at+1:])
		}
	}
}
