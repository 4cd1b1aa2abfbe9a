package seqset_test

import (
	"math/rand"
	"slices"
	"strings"
	"testing"

	"haversack/api"
	"haversack/seqset"
)

// P12.1, and P12.4 of all sets that are met here: see asSlow and wantSet.

func TestParse(t *testing.T) {
	const most = api.MaxNumber
	for _, c := range []struct {
		s      string
		wanted []api.Span
	}{
		{"1:3,*", set(1, 3, 0, 0)},
		{"1", set(1, 1)},
		{"9", set(9, 9)},
		{"10", set(10, 10)},
		{"100203", set(100203, 100203)},
		{"*", set(0, 0)},
		{"1:2", set(1, 2)},
		{"2:1", set(2, 1)},
		{"7:7", set(7, 7)},
		{"1:*", set(1, 0)},
		{"*:1", set(0, 1)},
		{"*:*", set(0, 0)},
		{"*,*", set(0, 0, 0, 0)},
		{"3,1,2", set(3, 3, 1, 1, 2, 2)},
		{"1,1", set(1, 1, 1, 1)},
		{"5:7,6:*,*:2,1", set(5, 7, 6, 0, 0, 2, 1, 1)},
		{"4294967295", set(most, most)},
		{"4294967294:4294967295", set(most-1, most)},
		{"4294967295:1", set(most, 1)},
		{"4294967295:*", set(most, 0)},
		{"*:4294967295", set(0, most)},
		{"4294967295:4294967295", set(most, most)},
		{"999999999,1000000000", set(999999999, 999999999, 1000000000, 1000000000)},
	} {
		wantParse(t, c.s, c.wanted)
		asSlow(t, c.s)
	}
}

func TestParseOfWrongForm(t *testing.T) {
	for _, c := range []struct{ why, s string }{
		{"nothing", ""},
		{"a comma alone", ","},
		{"two commas", ",,"},
		{"a comma ahead", ",1"},
		{"a comma behind", "1,"},
		{"two commas in a row", "1,,2"},
		{"a comma behind *", "*,"},
		{"a comma ahead of *", ",*"},
		{"a colon alone", ":"},
		{"two colons", "::"},
		{"a colon ahead", ":1"},
		{"a colon behind", "1:"},
		{"a colon ahead of *", ":*"},
		{"a colon behind *", "*:"},
		{"two colons in a row", "1::2"},
		{"three numbers", "1:2:3"},
		{"three of *", "*:*:*"},
		{"a colon twice in a later span", "1,1:2:3"},
		{"a colon and a comma", "1:,2"},
		{"a comma and a colon", "1,:2"},
		{"* twice", "**"},
		{"* behind digits", "1*"},
		{"* ahead of digits", "*1"},
		{"* behind a span's digits", "1:2*"},
		{"* ahead of a span's digits", "1:*2"},
		{"0", "0"},
		{"two of 0", "00"},
		{"0 ahead of digits", "01"},
		{"0 as a span's first", "0:1"},
		{"0 as a span's last", "1:0"},
		{"0 on both sides", "0:0"},
		{"0 ahead, in a span's last", "1:02"},
		{"0 ahead, in a later span", "1,02"},
		{"0 ahead of MaxNumber", "04294967295"},
		{"0 ahead of many digits", "0" + strings.Repeat("9", 100)},
		{"a blank alone", " "},
		{"a blank ahead", " 1"},
		{"a blank behind", "1 "},
		{"a blank within digits", "1 2"},
		{"a blank behind a comma", "1, 2"},
		{"a blank ahead of a comma", "1 ,2"},
		{"a blank behind a colon", "1: 2"},
		{"a blank ahead of a colon", "1 :2"},
		{"a line end behind", "1\n"},
		{"a line end behind", "1\r\n"},
		{"a byte 0", "\x00"},
		{"a byte 0 behind", "1\x00"},
		{"a sign", "+1"},
		{"a sign", "-1"},
		{"a sign within a span", "1:-2"},
		{"a sign between", "1-2"},
		{"digits with signs of Go's between", "1_000"},
		{"a number as Go has it", "0x1"},
		{"a number as Go has it", "1e3"},
		{"a dot", "1.0"},
		{"a semicolon", "1;2"},
		{"letters", "a"},
		{"digits of other writings", "\u0661"},
		{"a great digit", "\uff11"},
		{"brackets", "(1)"},
		{"quotes", "\"1\""},
	} {
		refusedParse(t, c.why, c.s, api.ErrForm)
		if _, e := slowParse(c.s); e != api.ErrForm {
			t.Fatalf("the slow reader takes %q", c.s)
		}
	}
}

// tooGreat are numbers above MaxNumber: in some of them digits of an int wrap round.
var tooGreat = []string{
	"4294967296", "4294967297", "4294967300", "5000000000", "9999999999", "10000000000", "42949672950",
	"9223372036854775807", "9223372036854775808", "9223372036854775809", "18446744073709551615", "18446744073709551616", "18446744073709551617",
	"36893488147419103233", "340282366920938463463374607431768211457",
	"1" + strings.Repeat("0", 100), strings.Repeat("9", 1000), "1" + strings.Repeat("0", 300000), strings.Repeat("4294967295", 10000),
}

func TestParseOfTooGreatNumbers(t *testing.T) {
	for _, n := range tooGreat {
		for _, s := range []string{n, n + ":1", "1:" + n, n + ":*", "*:" + n, n + ":" + n, "1," + n, n + ",1", "1:2,3:" + n + ",*"} {
			refusedParse(t, "a number above MaxNumber", s, api.ErrRange)
		}
		refusedParse(t, "with a 0 ahead", "0"+n, api.ErrForm)
	}
}

// spans is a text of so many.
func spans(n int, span string) string {
	return strings.TrimSuffix(strings.Repeat(span+",", n), ",")
}

func TestParseOfManySpans(t *testing.T) {
	for _, c := range []struct {
		text string
		span api.Span
	}{
		{"1", api.Span{From: 1, To: 1}},
		{"*", api.Span{}},
		{"2:*", api.Span{From: 2}},
		{"4294967295:1", api.Span{From: api.MaxNumber, To: 1}},
		{"3:3", api.Span{From: 3, To: 3}},
	} {
		for _, n := range []int{1, 2, api.MaxSpans - 1, api.MaxSpans} {
			wantParse(t, spans(n, c.text), slices.Repeat([]api.Span{c.span}, n))
		}
		for _, n := range []int{api.MaxSpans + 1, api.MaxSpans + 2, 2 * api.MaxSpans, 2*api.MaxSpans + 1, 100000} {
			refusedParse(t, "too many spans", spans(n, c.text), api.ErrMany)
		}
		refusedParse(t, "a comma behind", spans(api.MaxSpans, c.text)+",", api.ErrForm)
	}
}

// A fault of form goes ahead of a number that is too great, and that ahead of too many spans, wherever each stands.
func TestParseTellsTheFirstError(t *testing.T) {
	many := spans(api.MaxSpans+1, "1")
	for _, great := range tooGreat {
		refusedParse(t, "too great, then many", great+","+many, api.ErrRange)
		refusedParse(t, "many, then too great", many+","+great, api.ErrRange)
		refusedParse(t, "too great among many", many+",2:"+great+","+many, api.ErrRange)
		for _, wrong := range []string{"", "0", "x", "1:", ":1", "**", "1:2:3", " 1", "01"} {
			refusedParse(t, "too great, then wrong", great+","+wrong, api.ErrForm)
			refusedParse(t, "wrong, then too great", wrong+","+great, api.ErrForm)
			refusedParse(t, "many, then wrong", many+","+wrong, api.ErrForm)
			refusedParse(t, "wrong, then many", wrong+","+many, api.ErrForm)
			refusedParse(t, "too great, many, then wrong", great+","+many+","+wrong, api.ErrForm)
			refusedParse(t, "many, too great, then wrong", many+","+great+","+wrong, api.ErrForm)
			refusedParse(t, "wrong, many, then too great", wrong+","+many+","+great, api.ErrForm)
		}
		for _, wrong := range []string{great + "x", great + ":", ":" + great, great + "*", "*" + great, great + ":0", "0:" + great, great + " ", great + ":1:1"} {
			refusedParse(t, "too great and wrong in one", wrong, api.ErrForm)
			refusedParse(t, "too great and wrong in one", "1,"+wrong, api.ErrForm)
		}
	}
}

func TestParseOfShortTexts(t *testing.T) {
	taken := map[api.Errno]int{}
	eachText([]string{"0", "1", "20", ",", ":", "*", " "}, 6, func(s string) { taken[asSlow(t, s)]++ })
	if taken[api.OK] < 1000 || taken[api.ErrForm] < 10000 {
		t.Fatalf("they were %v", taken)
	}
}

func TestParseOfEachByte(t *testing.T) {
	for _, s := range []string{"", "1", "*", "1:3,*", "12:*,*:34,5", "*:*", "4294967295", "1:4294967295,7", "4294967296,2", "10,20:30"} {
		eachNear(s, func(near string) { asSlow(t, near) })
	}
}

func TestParseByChance(t *testing.T) {
	r := rand.New(rand.NewSource(1))
	taken := map[api.Errno]int{}
	for range 30000 {
		var texts []string
		for range 1 + r.Intn(4) {
			texts = append(texts, chance(r, 2, "1", "2", "30", "4294967295", "4294967296", "429496729", "99999999999999999999", "*", "*:", "1:", ":", "0"))
		}
		taken[asSlow(t, strings.Join(texts, ","))]++
	}
	for range 300 {
		text := spans(api.MaxSpans-2+r.Intn(5), "1") + "," + chance(r, 2, "1", "*", "4294967296", ":", ",", "2:3")
		taken[asSlow(t, text)]++
	}
	for _, e := range []api.Errno{api.OK, api.ErrForm, api.ErrRange, api.ErrMany} {
		if taken[e] < 20 {
			t.Fatalf("they were %v", taken)
		}
	}
}

func TestPrint(t *testing.T) {
	const most = api.MaxNumber
	for _, c := range []struct {
		wanted string
		l      []api.Span
	}{
		{"1:3,*", set(1, 3, 0, 0)},
		{"1", set(1, 1)},
		{"*", set(0, 0)},
		{"1:2", set(1, 2)},
		{"2:1", set(2, 1)},
		{"1:*", set(1, 0)},
		{"*:1", set(0, 1)},
		{"10", set(10, 10)},
		{"3,1,2", set(3, 3, 1, 1, 2, 2)},
		{"1,1", set(1, 1, 1, 1)},
		{"1:5,2:3", set(1, 5, 2, 3)},
		{"4294967295", set(most, most)},
		{"4294967295:1", set(most, 1)},
		{"4294967295:*", set(most, 0)},
		{"*:4294967295", set(0, most)},
	} {
		wantPrint(t, c.wanted, c.l...)
		wantSet(t, c.wanted, c.l...)
	}
}

func TestRightOfNumbers(t *testing.T) {
	may := func(n int) bool { return 0 <= n && n <= 4294967295 }
	for _, from := range edges {
		for _, to := range edges {
			for place := range 3 {
				l := set(1, 2, 0, 0, 5, 4)
				l[place] = api.Span{From: from, To: to}
				if may(from) && may(to) {
					wantSet(t, "numbers that may be", l...)
					wantSet(t, "numbers that may be", l[place])
				} else {
					wantNoSet(t, "a number that may not be", l...)
					wantNoSet(t, "a number that may not be", l[place])
				}
			}
		}
	}
}

func TestRightOfManySpans(t *testing.T) {
	wantNoSet(t, "no span")
	wantNoSet(t, "no span", nil...)
	wantNoSet(t, "no span", []api.Span{}...)
	for _, s := range set(1, 1, 0, 0, 2, 1, 5, 0, api.MaxNumber, api.MaxNumber) {
		for _, n := range []int{1, 2, api.MaxSpans - 1, api.MaxSpans} {
			wantSet(t, "as many as may be", slices.Repeat([]api.Span{s}, n)...)
		}
		for _, n := range []int{api.MaxSpans + 1, api.MaxSpans + 2, 2 * api.MaxSpans, 100000} {
			wantNoSet(t, "too many", slices.Repeat([]api.Span{s}, n)...)
		}
		l := slices.Repeat([]api.Span{s}, api.MaxSpans)
		for _, place := range []int{0, 1, api.MaxSpans / 2, api.MaxSpans - 1} {
			for _, wrong := range set(-1, 1, 1, -1, api.MaxNumber+1, 1, 1, api.MaxNumber+1) {
				l[place] = wrong
				wantNoSet(t, "one of many that may not be", l...)
			}
			l[place] = s
		}
	}
}

// P12.4

func TestBack(t *testing.T) {
	r := rand.New(rand.NewSource(4))
	for range 20000 {
		l := spansByChance(r, 6, 0, 1+r.Intn(30))
		if r.Intn(2) == 0 {
			l = spansByChance(r, 6, 0, api.MaxNumber-2)
		}
		if len(l) == 0 {
			continue
		}
		wantSet(t, "a set by chance", l...)
		asSlow(t, seqset.Print(l...))
	}
	wantSet(t, "a great set", spansByManyNumbers(api.MaxSpans)...)
}

// spansByManyNumbers are so many that no two are alike.
func spansByManyNumbers(n int) []api.Span {
	var l []api.Span
	for i := range n {
		l = append(l, api.Span{From: api.MaxNumber - 3*i, To: i})
	}
	return l
}

func TestBackOfWhatIsWrittenTwice(t *testing.T) {
	for s, wanted := range map[string]string{"1:1": "1", "*:*": "*", "2,3:3,4": "2,3,4", "4294967295:4294967295,1:2": "4294967295,1:2"} {
		l, e := seqset.Parse(s)
		if got := seqset.Print(l...); e != api.OK || got != wanted {
			t.Fatalf("Print of Parse(%q) is %q, %v; want %q", s, got, e, wanted)
		}
	}
}
