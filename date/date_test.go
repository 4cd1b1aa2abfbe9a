package date_test

import (
	"math"
	"math/rand"
	"slices"
	"testing"
	"time"

	"haversack/api"
	"haversack/date"
)

// The seconds of the first and the last one of the years there are, in Greenwich.
const (
	firstSecond = -62135596800
	lastSecond  = 253402300799
)

func wantUnix(t *testing.T, d api.Date, wanted int) {
	t.Helper()
	if got := date.Unix(d); got != wanted {
		t.Fatalf("Unix(%v) = %d; want %d", d, got, wanted)
	}
}

func wantAt(t *testing.T, unix, zone int, wanted api.Date) {
	t.Helper()
	if got := date.At(unix, zone); got != wanted {
		t.Fatalf("At(%d, %d) = %v; want %v", unix, zone, got, wanted)
	}
}

// P9.2

// eachWrong goes through dates that are right but for one member.
func eachWrong(do func(why string, d api.Date)) {
	change := func(why string, member func(*api.Date) *int, values ...int) {
		for _, n := range append(values, math.MaxInt, math.MinInt, 1<<32, -1<<32, 1<<32+1, 1<<16+1) {
			d := example
			*member(&d) = n
			do(why, d)
		}
	}
	change("year", func(d *api.Date) *int { return &d.Year }, 0, -1, 10000, 10001, -1996)
	change("month", func(d *api.Date) *int { return &d.Month }, 0, -1, 13, 14, -7, 256+7)
	change("day", func(d *api.Date) *int { return &d.Day }, 0, -1, 32, 33, -17, 256+17)
	change("hour", func(d *api.Date) *int { return &d.Hour }, -1, 24, 25, -24, 256+2)
	change("minute", func(d *api.Date) *int { return &d.Min }, -1, 60, 61, -60, 256+44)
	change("second", func(d *api.Date) *int { return &d.Sec }, -1, 60, 61, -60, 256+44)
	change("zone", func(d *api.Date) *int { return &d.Zone }, -1440, 1440, 1441, -1441, 86400)
	for month := 1; month <= 12; month++ {
		for _, year := range []int{1, 4, 100, 400, 1900, 1995, 1996, 2000, 9999} {
			d := api.Date{Year: year, Month: month, Day: 29}
			for slowIsDay(d.Year, d.Month, d.Day) {
				d.Day++
			}
			do("one day more than the month has", d)
		}
	}
	do("the zero one", api.Date{})
	do("time and zone alone", api.Date{Hour: 1, Min: 1, Sec: 1, Zone: 1})
}

func TestWrongDates(t *testing.T) {
	eachWrong(func(why string, d api.Date) {
		if date.Right(d) {
			t.Fatalf("%s: %v is right", why, d)
		}
		wantUnix(t, d, 0)
		if s := date.Print(d); s != "" {
			t.Fatalf("%s: Print(%v) = %q; want nothing", why, d, s)
		}
		if got, is := date.Last(d); is || got != (api.Date{}) {
			t.Fatalf("%s: Last(%v) = %v, %v", why, d, got, is)
		}
	})
}

func TestRightDates(t *testing.T) {
	right := func(d api.Date) {
		t.Helper()
		if !date.Right(d) {
			t.Fatalf("%v is not right", d)
		}
		wantUnix(t, d, int(slowTime(d).Unix()))
		wantAt(t, int(slowTime(d).Unix()), d.Zone, d)
	}
	for _, year := range []int{1, 2, 4, 100, 400, 1900, 1969, 1970, 1972, 2000, 2100, 9996, 9998, 9999} {
		for month := 1; month <= 12; month++ {
			for day := 1; slowIsDay(year, month, day); day++ {
				right(api.Date{Year: year, Month: month, Day: day})
				right(api.Date{Year: year, Month: month, Day: day, Hour: 23, Min: 59, Sec: 59, Zone: -1439})
				right(api.Date{Year: year, Month: month, Day: day, Zone: 1439})
			}
		}
	}
	for zone := -1439; zone <= 1439; zone++ {
		d := example
		d.Zone = zone
		right(d)
		right(api.Date{Year: 1, Month: 1, Day: 1, Zone: zone})
		right(api.Date{Year: 9999, Month: 12, Day: 31, Hour: 23, Min: 59, Sec: 59, Zone: zone})
		right(api.Date{Year: 1970, Month: 1, Day: 1, Zone: zone})
	}
	for second := range 86400 {
		right(api.Date{Year: 1996, Month: 2, Day: 29, Hour: second / 3600, Min: second / 60 % 60, Sec: second % 60, Zone: 61})
	}
}

func TestUnix(t *testing.T) {
	for _, c := range []struct {
		d    api.Date
		unix int
	}{
		{example, 837596665},
		{api.Date{Year: 1970, Month: 1, Day: 1}, 0},
		{api.Date{Year: 1970, Month: 1, Day: 1, Sec: 1}, 1},
		{api.Date{Year: 1970, Month: 1, Day: 1, Min: 1}, 60},
		{api.Date{Year: 1970, Month: 1, Day: 1, Hour: 1}, 3600},
		{api.Date{Year: 1970, Month: 1, Day: 2}, 86400},
		{api.Date{Year: 1970, Month: 1, Day: 1, Zone: 1}, -60},
		{api.Date{Year: 1970, Month: 1, Day: 1, Zone: -1}, 60},
		{api.Date{Year: 1970, Month: 1, Day: 1, Hour: 1, Zone: 60}, 0},
		{api.Date{Year: 1969, Month: 12, Day: 31, Hour: 23, Zone: -60}, 0},
		{api.Date{Year: 1969, Month: 12, Day: 31, Hour: 23, Min: 59, Sec: 59}, -1},
		{api.Date{Year: 1969, Month: 12, Day: 31}, -86400},
		{api.Date{Year: 2001, Month: 9, Day: 9, Hour: 1, Min: 46, Sec: 40}, 1000000000},
		{api.Date{Year: 2038, Month: 1, Day: 19, Hour: 3, Min: 14, Sec: 8}, 1 << 31},
		{api.Date{Year: 1, Month: 1, Day: 1}, firstSecond},
		{api.Date{Year: 9999, Month: 12, Day: 31, Hour: 23, Min: 59, Sec: 59}, lastSecond},
		{api.Date{Year: 1, Month: 1, Day: 1, Zone: 1439}, firstSecond - 1439*60},
		{api.Date{Year: 1, Month: 1, Day: 1, Zone: -1439}, firstSecond + 1439*60},
		{api.Date{Year: 9999, Month: 12, Day: 31, Hour: 23, Min: 59, Sec: 59, Zone: -1439}, lastSecond + 1439*60},
		{api.Date{Year: 9999, Month: 12, Day: 31, Hour: 23, Min: 59, Sec: 59, Zone: 1439}, lastSecond - 1439*60},
	} {
		wantUnix(t, c.d, c.unix)
		wantAt(t, c.unix, c.d.Zone, c.d)
	}
}

// The seconds around the first and the last one that a zone has.
func TestAtTheEnds(t *testing.T) {
	for zone := -1439; zone <= 1439; zone++ {
		first, last := firstSecond-60*zone, lastSecond-60*zone
		wantAt(t, first, zone, api.Date{Year: 1, Month: 1, Day: 1, Zone: zone})
		wantAt(t, first+1, zone, api.Date{Year: 1, Month: 1, Day: 1, Sec: 1, Zone: zone})
		wantAt(t, last, zone, api.Date{Year: 9999, Month: 12, Day: 31, Hour: 23, Min: 59, Sec: 59, Zone: zone})
		for _, beyond := range []int{1, 2, 60, 3600, 86399, 86400, 86401, 366 * 86400, 1 << 40, 1 << 55} {
			wantAt(t, first-beyond, zone, api.Date{})
			wantAt(t, last+beyond, zone, api.Date{})
		}
	}
}

func TestAtWhatThereIsNot(t *testing.T) {
	for _, zone := range []int{-1440, 1440, -1441, 1441, 86400, math.MaxInt, math.MinInt, 1 << 32, -1 << 32, math.MaxInt / 60, 1 << 58, 1 << 62} {
		for _, unix := range []int{0, 1, -1, 837596665, firstSecond, lastSecond, math.MaxInt, math.MinInt} {
			wantAt(t, unix, zone, api.Date{})
		}
	}
	for _, zone := range []int{-1439, -60, -1, 0, 1, 60, 1439} {
		for _, near := range []int{0, 1, 60, 86399, 86400, 1439 * 60, 1439*60 + 1} {
			wantAt(t, math.MaxInt-near, zone, api.Date{})
			wantAt(t, math.MinInt+near, zone, api.Date{})
		}
		wantAt(t, math.MaxInt+firstSecond, zone, api.Date{})
		wantAt(t, math.MinInt+lastSecond, zone, api.Date{})
	}
}

// P9.8

func TestAtOfUnix(t *testing.T) {
	r := rand.New(rand.NewSource(8))
	for range 200000 {
		d := rightDate(r)
		wantUnix(t, d, int(slowTime(d).Unix()))
		wantAt(t, date.Unix(d), d.Zone, d)
	}
	for range 200000 {
		unix, zone := firstSecond-100000+r.Intn(lastSecond-firstSecond+200000), r.Intn(1439*2+1)-1439
		at := time.Unix(int64(unix), 0).In(time.FixedZone("", 60*zone))
		wanted := api.Date{
			Year: at.Year(), Month: int(at.Month()), Day: at.Day(),
			Hour: at.Hour(), Min: at.Minute(), Sec: at.Second(), Zone: zone,
		}
		if at.Year() < 1 || at.Year() > 9999 {
			wanted = api.Date{}
		} else {
			wantUnix(t, wanted, unix)
		}
		wantAt(t, unix, zone, wanted)
	}
}

// P9.6

func wantLast(t *testing.T, wanted api.Date, is bool, l ...api.Date) {
	t.Helper()
	if got, was := date.Last(l...); got != wanted || was != is {
		t.Fatalf("Last(%v) = %v, %v; want %v, %v", l, got, was, wanted, is)
	}
}

func TestLast(t *testing.T) {
	old := api.Date{Year: 1, Month: 1, Day: 1, Zone: 1439}
	early := api.Date{Year: 1969, Month: 12, Day: 31, Hour: 23, Min: 59, Sec: 59}
	begin := api.Date{Year: 1970, Month: 1, Day: 1}
	same := api.Date{Year: 1996, Month: 7, Day: 17, Hour: 9, Min: 44, Sec: 25}
	alike := api.Date{Year: 1996, Month: 7, Day: 17, Hour: 10, Min: 44, Sec: 25, Zone: 60}
	later := api.Date{Year: 1996, Month: 7, Day: 17, Hour: 1, Min: 44, Sec: 26, Zone: -480}
	end := api.Date{Year: 9999, Month: 12, Day: 31, Hour: 23, Min: 59, Sec: 59, Zone: -1439}
	wrong := api.Date{Year: 9999, Month: 12, Day: 32}
	none := api.Date{}

	wantLast(t, none, false)
	wantLast(t, none, false, []api.Date{}...)
	wantLast(t, none, false, none)
	wantLast(t, none, false, wrong)
	wantLast(t, none, false, wrong, none, wrong)
	wantLast(t, example, true, example)
	wantLast(t, old, true, old)
	wantLast(t, begin, true, begin)
	wantLast(t, old, true, none, old, wrong)
	wantLast(t, early, true, early, wrong)
	wantLast(t, early, true, wrong, early)
	wantLast(t, early, true, old, early)
	wantLast(t, early, true, early, old)
	wantLast(t, begin, true, early, begin)
	wantLast(t, begin, true, begin, early)
	wantLast(t, example, true, example, same, alike)
	wantLast(t, same, true, same, alike, example)
	wantLast(t, alike, true, alike, example, same)
	wantLast(t, alike, true, begin, alike, example, begin, same, wrong)
	wantLast(t, later, true, example, later)
	wantLast(t, later, true, later, example)
	wantLast(t, later, true, same, alike, later, begin, example)
	wantLast(t, end, true, old, end, early, wrong)
	wantLast(t, end, true, end, example, end)
}

// Lists by chance, of dates few seconds and many zones apart, and wrong ones; what is handed in stays as it was.
func TestLastOfMany(t *testing.T) {
	r := rand.New(rand.NewSource(6))
	for range 30000 {
		var l []api.Date
		for range r.Intn(8) {
			d := date.At(r.Intn(7)-3, (r.Intn(9)-4)*r.Intn(360))
			switch r.Intn(6) {
			case 0:
				d.Sec = 60
			case 1:
				d = rightDate(r)
			}
			l = append(l, d)
		}
		var wanted api.Date
		is := false
		for _, d := range l {
			if slowRight(d) && (!is || slowTime(d).After(slowTime(wanted))) {
				wanted, is = d, true
			}
		}
		was := slices.Clone(l)
		wantLast(t, wanted, is, l...)
		wantLast(t, wanted, is, l...)
		if !slices.Equal(l, was) {
			t.Fatalf("the list is %v; it was %v", l, was)
		}
	}
}
