package mail_test

import (
	"math"
	"slices"
	"strings"
	"testing"

	"haversack/api"
)

// P17.3: List, Lsub, Status, Mails, Text.

// named are the names of what is listed.
func named(l []api.Listed) []string {
	var all []string
	for _, one := range l {
		all = append(all, one.Name)
	}
	return all
}

func TestListAndLsub(t *testing.T) {
	p := newPlay(t)
	for _, name := range []string{"b", "a/b/c", "a", "ab", "a!", "B", "é", "Sent", "inbox/Sent"} {
		p.does("ann", create(name))
		p.wants("ann", api.OK, subscribe(name, true))
	}
	p.wants("ann", api.OK, subscribe("a/x", true), subscribe("zz", true))
	all := []string{"B", "INBOX", "INBOX/Sent", "Sent", "a", "a!", "a/b", "a/b/c", "ab", "b", "é"}
	for _, c := range []struct {
		ref, pattern string
		wanted       []string
	}{
		{"", "*", all},
		{"*", "", all},
		{"", "", nil},
		{"", "%", []string{"B", "INBOX", "Sent", "a", "a!", "ab", "b", "é"}},
		{"", "%/%", []string{"INBOX/Sent", "a/b"}},
		{"", "*/*", []string{"INBOX/Sent", "a/b", "a/b/c"}},
		{"a", "", []string{"a"}},
		{"", "a", []string{"a"}},
		{"a", "*", []string{"a", "a!", "a/b", "a/b/c", "ab"}},
		{"a", "%", []string{"a", "a!", "ab"}},
		{"a/", "*", []string{"a/b", "a/b/c"}},
		{"a/", "%", []string{"a/b"}},
		{"a", "/%", []string{"a/b"}},
		{"a", "b", []string{"ab"}},
		{"%", "b", []string{"ab", "b"}},
		{"INBOX", "", []string{"INBOX"}},
		{"INBOX", "*", []string{"INBOX", "INBOX/Sent"}},
		{"IN", "BOX/%", []string{"INBOX/Sent"}},
		{"", "*Sent", []string{"INBOX/Sent", "Sent"}},
		{"", "c", nil},
		{"", "*\xff", nil},
		{"\x00", "*", nil},
		{times(100), "*", nil},
		{"", "\xc3*", []string{"é"}},
	} {
		x := p.s.Begin()
		l, e := p.at(x, "ann").List(c.ref, c.pattern)
		if e != api.OK || !slices.Equal(named(l), c.wanted) {
			t.Fatalf("List(%q, %q) = %q, %v; want %q", c.ref, c.pattern, named(l), e, c.wanted)
		}
		x.Rollback()
		for _, user := range []string{"ann", "bob", none} {
			want(t, "List", p.try(user, list(c.ref, c.pattern)), api.OK)
			want(t, "Lsub", p.try(user, lsub(c.ref, c.pattern)), api.OK)
		}
	}
	p.tells("ann", lsub("", "*"), []string{"B", "INBOX/Sent", "Sent", "a", "a!", "a/b/c", "a/x", "ab", "b", "zz", "é"})
	p.tells("ann", lsub("a", "%"), []string{"a", "a!", "ab"})
	p.tells("ann", lsub("", "%"), []string{"B", "Sent", "a", "a!", "ab", "b", "zz", "é"})
	p.tells("ann", lsub("", ""), []string(nil))
}

func TestUses(t *testing.T) {
	p := newPlay(t)
	for _, name := range []string{"Archive", "Drafts", "Junk", "Sent", "Trash"} {
		p.wants("ann", api.OK, create(name))
		p.tells("ann", list("", name), []api.Listed{{Name: name, Use: `\` + name}})
		p.wants("ann", api.OK, create(name+"/x"))
		p.tells("ann", list("", name), []api.Listed{{Name: name, Use: `\` + name, Kids: true}})
		for _, other := range []string{strings.ToLower(name), strings.ToUpper(name), name + "s", " " + name, `\` + name, "x" + name, "x/" + name, "INBOX/" + name, name + "/" + name, name[1:]} {
			p.wants("ann", api.OK, create(other))
			p.tells("ann", list("", other), []api.Listed{{Name: other}})
			p.wants("ann", api.OK, remove(other))
		}
	}
	p.same()
}

func TestKids(t *testing.T) {
	p := newPlay(t)
	for _, name := range []string{"a", "a b/c", "a!b", "ab/c/d", "é/é"} {
		p.wants("ann", api.OK, create(name))
	}
	p.tells("ann", list("", "*"), []api.Listed{
		{Name: "INBOX"}, {Name: "a"}, {Name: "a b", Kids: true}, {Name: "a b/c"}, {Name: "a!b"},
		{Name: "ab", Kids: true}, {Name: "ab/c", Kids: true}, {Name: "ab/c/d"}, {Name: "é", Kids: true}, {Name: "é/é"},
	})
	p.wants("ann", api.OK, create("a/b"), remove("ab/c/d"), create("inbox/a"))
	p.tells("ann", list("", "%"), []api.Listed{
		{Name: "INBOX", Kids: true}, {Name: "a", Kids: true}, {Name: "a b", Kids: true}, {Name: "a!b"}, {Name: "ab", Kids: true}, {Name: "é", Kids: true},
	})
	p.tells("ann", list("ab", "/%"), []api.Listed{{Name: "ab/c"}})
	p.same()
}

func TestStatus(t *testing.T) {
	p := newPlay(t)
	p.wants("ann", api.OK, create("a/b"), appendTo("a/b", of("12345", `\Seen`), of("", `\DELETED`, "x"), of("123", `\seen`, `\Deleted`), of("1", "Seen", "Deleted")))
	p.tells("ann", status("a/b"), api.Status{ID: 4, Validity: 4, Next: 5, Messages: 4, Unseen: 2, Deleted: 2, Size: 9})
	for _, name := range append(wrongNames, "b", "A", "a/b/", "a/b/c", "a/B") {
		p.wants("ann", api.ErrNone, status(name))
	}
	for _, name := range inboxes {
		p.tells("ann", status(name), api.Status{ID: 1, Validity: 1, Next: 1})
	}
	p.wants("bob", api.ErrNone, status("a/b"))
}

// ids are numbers that no mailbox of ann has.
var ids = []int{math.MinInt, -1 << 32, -10, -2, -1, 0, 2, 4, 5, 9, 10, 11, 99, 100, 1 << 32, math.MaxInt}

func TestMailsAndText(t *testing.T) {
	p := newPlay(t)
	p.wants("ann", api.OK, create("a"))
	day := api.Date{Year: 1996, Month: 7, Day: 17, Hour: 2, Min: 44, Sec: 25, Zone: -420}
	p.wants("ann", api.OK, appendTo("a",
		api.Letter{Text: "Subject: x\r\n\r\ny", Flags: flags("b", `\seen`, "a"), Date: []api.Date{day}},
		of(""), of("\x00\xff 12 \n")))
	wanted := []api.Mail{
		{UID: 1, Flags: flags(`\Seen`, "a", "b"), Date: day, Size: 15, ID: 1},
		{UID: 2, Date: noon, ID: 2},
		{UID: 3, Date: noon, Size: 7, ID: 3},
	}
	p.tells("ann", mails(3), wanted)
	p.tells("ann", mails(1), []api.Mail(nil))
	p.tells("ann", text(3, 1), "Subject: x\r\n\r\ny")
	p.tells("ann", text(3, 2), "")
	p.tells("ann", text(3, 3), "\x00\xff 12 \n")
	for _, id := range ids {
		p.wants("ann", api.ErrNone, mails(id), text(id, 1), text(id, 0))
		p.wants("ann", api.ErrNone, copyTo(id, "a", 1), moveTo(id, "a", 1), store(id, 0, nil, 1), expunge(id, true), expunge(id, false, 1))
	}
	for _, uid := range []int{math.MinInt, -1, 0, 4, 10, 11, 31, 1 << 32, math.MaxInt} {
		p.wants("ann", api.ErrNone, text(3, uid), text(1, uid))
	}
	p.same()
}

// Numbers of one, two and three digits stand in their order.
func TestOrderOfUIDs(t *testing.T) {
	p := widePlay(t)
	for range 12 {
		p.wants("ann", api.OK, appendTo("INBOX", sized(numbered(1, 10)...)...))
	}
	x := p.s.Begin()
	l, e := p.at(x, "ann").Mails(1)
	want(t, "Mails", e, api.OK)
	for i, m := range l {
		if m.UID != i+1 || m.ID != i+1 || m.Size != i%10+1 {
			t.Fatalf("the message %d is %+v", i+1, m)
		}
	}
	if len(l) != 120 {
		t.Fatalf("%d messages", len(l))
	}
	x.Rollback()
	p.same()
	p.wants("ann", api.OK, create("a"), store(1, 1, flags(`\Deleted`), numbered(5, 110)...), moveTo(1, "a", 9, 99, 100, 101, 8, 10), expunge(1, true), appendTo("a", of("x")))
	p.same()
}

// Mailboxes with numbers of more digits, one of which begins with another one's.
func TestOrderOfMailboxes(t *testing.T) {
	p := newPlay(t)
	for i := range 40 {
		p.wants("ann", api.OK, create("b"+string(rune('A'+i))))
	}
	p.wants("ann", api.OK, appendTo("bA", of("3")), appendTo("bB", of("4")))
	for id := 10; id < 43; id++ {
		p.wants("ann", api.OK, copyTo(3, p.slow.nameOf("ann", id), 1))
	}
	p.tells("ann", mails(4), []api.Mail{{UID: 1, Date: noon, Size: 1, ID: 2}})
	p.same()
	for id := 10; id < 43; id++ {
		p.wants("ann", api.OK, remove(p.slow.nameOf("ann", id)))
	}
	p.same()
}
