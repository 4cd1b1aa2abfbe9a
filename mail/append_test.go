package mail_test

import (
	"math"
	"strconv"
	"strings"
	"testing"

	"haversack/api"
)

// P17.4: Append.

// The chapter's example.
func TestExampleOfTheChapter(t *testing.T) {
	p := emptyPlay(t, 400)
	p.adds("ann", "p", 100)
	p.wants("ann", api.OK, create("new"))
	p.tellsOf("ann", appendTo("INBOX", sized(40, 40)...), []int{1, 2})
	p.wants("ann", api.ErrQuota, appendTo("INBOX", sized(30)...))
	p.tells("ann", mails(1), []api.Mail{{UID: 1, Date: noon, Size: 40, ID: 1}, {UID: 2, Date: noon, Size: 40, ID: 2}})
	p.tellsOf("ann", moveTo(1, "new", 1, 2), []int{1, 2}, []int{1, 2})
	p.tells("ann", mails(1), []api.Mail(nil))
	p.tells("ann", mails(2), []api.Mail{{UID: 1, Date: noon, Size: 40, ID: 1}, {UID: 2, Date: noon, Size: 40, ID: 2}})
	p.tells("ann", quota(), 80, 100)
	p.same()
}

func TestAppendToNone(t *testing.T) {
	p := newPlay(t)
	p.wants("ann", api.OK, create("a/b"))
	for _, name := range append(wrongNames, "b", "a/c", "A", "a/b/c") {
		p.wants("ann", api.ErrNone, appendTo(name), appendTo(name, of("x")))
		want(t, "Append ahead of other errors", p.try("ann", appendTo(name, sized(make([]int, 11)...)...)), api.ErrNone)
		want(t, "Append ahead of other errors", p.try("ann", appendTo(name, sized(50001)...)), api.ErrNone)
		want(t, "Append ahead of other errors", p.try("ann", appendTo(name, sized(2000)...)), api.ErrNone)
	}
	for i, name := range inboxes {
		p.wants("ann", api.OK, appendTo(name, of(strconv.Itoa(i))))
		p.tells("ann", text(1, i+1), strconv.Itoa(i))
	}
	p.same()
}

func TestHowManyAreAppended(t *testing.T) {
	p := newPlay(t)
	for n := range 25 {
		wanted := api.OK
		if n > api.MaxAppend {
			wanted = api.ErrMany
		}
		want(t, what("Append", n), p.try("ann", appendTo("INBOX", sized(make([]int, n)...)...)), wanted)
	}
	many := sized(make([]int, 11)...)
	many[3].Text = times(50001)
	p.wants("ann", api.ErrMany, appendTo("INBOX", many...), appendTo("INBOX", make([]api.Letter, 1<<16)...))
	p.wants("ann", api.OK, appendTo("INBOX"))
	p.tells("ann", status("INBOX"), api.Status{ID: 1, Validity: 1, Next: 1})
	p.same()
}

// crowded is a store where ann's INBOX has so many messages, of a byte each.
func crowded(t *testing.T, count int) *play {
	t.Helper()
	p := widePlay(t)
	for count > 0 {
		n := min(count, api.MaxAppend)
		p.wants("ann", api.OK, appendTo("INBOX", sized(numbered(1, 10)[:n]...)...))
		count -= n
	}
	return p
}

func TestMaxMails(t *testing.T) {
	p := crowded(t, api.MaxMails-3)
	for n := range 12 {
		wanted := api.OK
		if n > 3 {
			wanted = api.ErrMany
		}
		x := p.fork(t)
		x.wants("ann", wanted, appendTo("INBOX", sized(make([]int, n)...)...))
		x.same()
	}
	p.wants("ann", api.OK, appendTo("INBOX", sized(1, 2, 3)...), appendTo("INBOX"))
	p.wants("ann", api.ErrMany, appendTo("INBOX", of("")), appendTo("INBOX", of(times(50001))))
	p.wants("ann", api.OK, create("a"), appendTo("a", of("x")), store(1, 1, flags(`\Deleted`), 7, 8), expunge(1, true))
	p.wants("ann", api.ErrMany, appendTo("INBOX", sized(1, 2, 3)...))
	p.wants("ann", api.OK, appendTo("INBOX", sized(1, 2)...))
	p.tells("ann", status("INBOX"), api.Status{ID: 1, Validity: 1, Next: 303, Messages: 300, Unseen: 300, Size: p.slow.at("ann").use() - 1})
	p.same()
}

func TestLongTexts(t *testing.T) {
	p := widePlay(t)
	for _, n := range []int{0, 1, 59, 60, 61, 487, 488, 489, 4095, api.MaxLiteral - 1, api.MaxLiteral, api.MaxLiteral + 1, 60000, 60001, 1 << 20} {
		wanted := api.OK
		if n > api.MaxLiteral {
			wanted = api.ErrLong
		}
		p.wants("ann", wanted, appendTo("INBOX", of(times(n))), appendTo("INBOX", of("a"), of(times(n))), appendTo("INBOX", of(times(n)), of("b")))
	}
	p.same()
	p.adds("bob", "", 50000)
	p.wants("bob", api.ErrLong, appendTo("INBOX", sized(50001)...), appendTo("INBOX", sized(50000, 50001)...))
	p.wants("bob", api.ErrQuota, appendTo("INBOX", sized(50000, 1)...))
	p.wants("bob", api.OK, appendTo("INBOX", sized(50000, 0)...))
	p.wants("bob", api.ErrQuota, appendTo("INBOX", sized(1)...))
	p.same()
}

func TestUpToTheLimit(t *testing.T) {
	p := newPlay(t)
	for _, c := range []struct {
		wanted api.Errno
		sizes  []int
	}{
		{api.OK, []int{100}}, {api.ErrQuota, []int{101}}, {api.OK, []int{99, 1}}, {api.ErrQuota, []int{99, 2}},
		{api.OK, []int{10, 10, 10, 10, 10, 10, 10, 10, 10, 10}}, {api.ErrQuota, []int{10, 10, 10, 10, 10, 10, 10, 10, 10, 11}},
		{api.OK, []int{100, 0, 0}}, {api.OK, nil}, {api.ErrQuota, []int{50000, 50000}},
	} {
		want(t, what("Append", c.sizes), p.try("bob", appendTo("INBOX", sized(c.sizes...)...)), c.wanted)
	}
	p.wants("bob", api.OK, create("a"), appendTo("a", sized(60)...), appendTo("INBOX", sized(39)...))
	p.wants("bob", api.ErrQuota, appendTo("INBOX", sized(2)...), appendTo("a", sized(2)...), appendTo("a", sized(1, 1)...))
	p.wants("bob", api.OK, appendTo("INBOX", sized(1)...), appendTo("INBOX", sized(0)...), appendTo("INBOX"))
	p.wants("bob", api.ErrQuota, appendTo("a", sized(1)...))
	p.tells("bob", quota(), 100, 100)
	p.tells("ann", quota(), 0, 1000)
	p.wants("bob", api.OK, remove("a"), appendTo("INBOX", sized(60)...))
	p.same()
}

func TestFlagsOfLetters(t *testing.T) {
	p := newPlay(t)
	var many []string
	for i := range 30 {
		many = append(many, "f"+strconv.Itoa(100+i))
	}
	p.wants("ann", api.OK, appendTo("INBOX",
		of("1"),
		of("2", `\SEEN`, `\seen`, "b", "a", "b"),
		of("3", "", `\x`, "nil", "12", "a b", `a"`, times(31), "é"),
		of("4", many...),
		of("5", `\Deleted`, `\Draft`, `\Flagged`, `\Answered`, `\Seen`),
		of("6", times(30), "~", "!", "seen")))
	for i, wanted := range [][]string{
		nil, flags(`\Seen`, "a", "b"), nil, many[:20], flags(`\Answered`, `\Deleted`, `\Draft`, `\Flagged`, `\Seen`), flags("!", "seen", times(30), "~"),
	} {
		if got := p.mails("ann", 1)[i].Flags; !same(got, wanted) {
			t.Fatalf("the flags of %d are %q; want %q", i+1, got, wanted)
		}
	}
	p.tells("ann", status("INBOX"), api.Status{ID: 1, Validity: 1, Next: 7, Messages: 6, Unseen: 4, Deleted: 1, Size: 6})
	p.same()
}

func TestDatesOfLetters(t *testing.T) {
	p := newPlay(t)
	first := api.Date{Year: 1, Month: 1, Day: 1}
	last := api.Date{Year: 9999, Month: 12, Day: 31, Hour: 23, Min: 59, Sec: 59, Zone: -1439}
	wrong := []api.Date{{}, {Year: 2001, Month: 2, Day: 29}, {Year: 10000, Month: 1, Day: 1}, {Year: 2001, Month: 1, Day: 1, Zone: 1440},
		{Year: math.MinInt, Month: -1, Day: math.MaxInt, Hour: -5, Min: -6, Sec: -7, Zone: math.MinInt}}
	given := [][]api.Date{nil, {}, {first}, {last}, {first, last}, {last, first}}
	wanted := []api.Date{noon, noon, first, last, first, last}
	for _, d := range wrong {
		given = append(given, []api.Date{d}, []api.Date{d, d}, []api.Date{d, last, first})
		wanted = append(wanted, noon, noon, last)
	}
	for i, dates := range given {
		p.wants("ann", api.OK, appendTo("INBOX", api.Letter{Date: dates, Text: "x"}))
		if got := p.mails("ann", 1)[i].Date; got != wanted[i] {
			t.Fatalf("the date of a letter with %v is %v; want %v", dates, got, wanted[i])
		}
	}
	// When it is now is kept as it is told.
	for _, now := range append(wrong, first, last) {
		p.wants("ann", api.OK, appendAt("INBOX", now, of("x"), api.Letter{Date: []api.Date{last}}, api.Letter{Date: wrong}))
		l := p.mails("ann", 1)
		l = l[len(l)-3:]
		if l[0].Date != now || l[1].Date != last || l[2].Date != now {
			t.Fatalf("now is %v; the dates are %v, %v, %v", now, l[0].Date, l[1].Date, l[2].Date)
		}
	}
	p.same()
}

// Each byte, and all of them.
func TestTextsAreKeptByteForByte(t *testing.T) {
	t.Parallel()
	p := widePlay(t)
	var all strings.Builder
	for b := range 256 {
		all.WriteByte(byte(b))
		p.wants("ann", api.OK, create("b"+strconv.Itoa(b%50)))
		p.wants("ann", api.OK, appendTo("b"+strconv.Itoa(b%50), of(string([]byte{byte(b)})), of(all.String()), of(strings.Repeat(string([]byte{byte(b)}), 1000))))
		p.wants("ann", api.OK, remove("b"+strconv.Itoa(b%50)))
		p.wants("ann", api.OK, appendTo("INBOX", of(string([]byte{byte(b)}))))
	}
	p.same()
}

// Texts that are alike are texts of their own.
func TestNumbersOfTexts(t *testing.T) {
	p := newPlay(t)
	p.wants("ann", api.OK, appendTo("INBOX", of("x"), of("x")))
	p.wants("bob", api.OK, appendTo("INBOX", of("x")))
	p.wants("ann", api.ErrLong, appendTo("INBOX", of("x"), of(times(50001))))
	p.wants("ann", api.OK, store(1, 1, flags(`\Deleted`), 1, 2), expunge(1, true), appendTo("INBOX", of("x")))
	p.tells("ann", mails(1), []api.Mail{{UID: 3, Date: noon, Size: 1, ID: 4}})
	p.tells("bob", mails(2), []api.Mail{{UID: 1, Date: noon, Size: 1, ID: 3}})
	p.same()
}
