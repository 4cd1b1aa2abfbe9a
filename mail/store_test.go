package mail_test

import (
	"math"
	"slices"
	"testing"

	"haversack/api"
)

// P17.6: Store, Expunge. P17.7: Quota.

func TestStore(t *testing.T) {
	t.Parallel()
	p := pair(t)
	modes := []int{0, 1, 2, 3, -1, 7, math.MaxInt, math.MinInt}
	lists := [][]string{nil, flags(`\seen`), flags(`\DELETED`, "b"), flags("a"), flags(`\Seen`, `\Deleted`), flags(`\x`, "nil", ""), flags("a", "A", "a"), slices.Repeat(flags("z", "y"), 50)}
	for _, c := range picks {
		for _, mode := range modes {
			for _, l := range lists {
				x := p.fork(t)
				x.tellsOf("ann", store(1, mode, l, c.uids...), c.wanted)
				x.same()
			}
		}
	}
	p.wants("ann", api.OK, store(1, 0, flags(`\seen`, "x"), 1, 3), store(1, 1, flags(`\DELETED`), 3, 5), store(1, 2, flags("x", `\deleted`), 3, 4))
	p.tells("ann", mails(1), []api.Mail{
		{UID: 1, Flags: flags(`\Seen`, "x"), Date: noon, Size: 10, ID: 1},
		{UID: 3, Flags: flags(`\Seen`), Date: noon, Size: 30, ID: 3},
		{UID: 4, Date: noon, Size: 40, ID: 4},
		{UID: 5, Flags: flags(`\Deleted`), Date: noon, Size: 50, ID: 5},
	})
	p.tells("ann", status("INBOX"), api.Status{ID: 1, Validity: 1, Next: 6, Messages: 4, Unseen: 2, Deleted: 1, Size: 130})
	p.tells("ann", status("to"), api.Status{ID: 3, Validity: 3, Next: 2, Messages: 1, Unseen: 1, Size: 7})
	p.same()
}

// The flags of a copy are its own.
func TestStoreInOneMailbox(t *testing.T) {
	p := pair(t)
	p.wants("ann", api.OK, copyTo(1, "to", 3), store(3, 0, flags("new"), 2))
	p.tells("ann", mails(3), []api.Mail{{UID: 1, Date: noon, Size: 7, ID: 6}, {UID: 2, Flags: flags("new"), Date: noon, Size: 30, ID: 3}})
	p.wants("ann", api.OK, store(1, 1, flags("more"), 1, 3))
	p.same()
}

// So many flags as may be, and more.
func TestStoreManyFlags(t *testing.T) {
	p := pair(t)
	var many []string
	for i := range 40 {
		many = append(many, times(28)+string(rune('a'+i/26))+string(rune('a'+i%26)))
	}
	p.wants("ann", api.OK, store(1, 0, many, 1))
	if got := p.mails("ann", 1)[0].Flags; !slices.Equal(got, many[:20]) {
		t.Fatalf("the flags are %q", got)
	}
	p.wants("ann", api.OK, store(1, 1, flags("a", `\seen`), 1))
	p.same()
	p.wants("ann", api.OK, store(1, 2, many, 1))
	p.same()
}

func TestExpunge(t *testing.T) {
	p := pair(t)
	p.wants("ann", api.OK, store(1, 1, flags(`\Deleted`), 1, 5), store(3, 1, flags(`\Deleted`), 1))
	gone := []int{1, 4, 5}
	for _, c := range picks {
		x := p.fork(t)
		x.tellsOf("ann", expunge(1, true, c.uids...), gone)
		x.tells("ann", quota(), 37, 1000)
		x.same()
		x = p.fork(t)
		wanted := slices.DeleteFunc(slices.Clone(c.wanted), func(uid int) bool { return uid == 3 })
		x.tellsOf("ann", expunge(1, false, c.uids...), wanted)
		x.same()
	}
	p.wants("ann", api.OK, expunge(1, false, 3, 4))
	p.tells("ann", mails(1), []api.Mail{
		{UID: 1, Flags: flags(`\Deleted`), Date: noon, Size: 10, ID: 1},
		{UID: 3, Flags: flags(`\Seen`, "a"), Date: noon, Size: 30, ID: 3},
		{UID: 5, Flags: flags(`\Deleted`), Date: noon, Size: 50, ID: 5},
	})
	p.tells("ann", quota(), 97, 1000)
	p.wants("ann", api.ErrNone, text(1, 4))
	p.wants("ann", api.OK, expunge(1, true), expunge(1, true), expunge(3, false, 1))
	p.tells("ann", quota(), 30, 1000)
	p.tells("ann", status("INBOX"), api.Status{ID: 1, Validity: 1, Next: 6, Messages: 1, Size: 30})
	p.tells("ann", status("to"), api.Status{ID: 3, Validity: 3, Next: 2})
	p.wants("ann", api.OK, appendTo("INBOX", of("x")))
	p.tells("ann", mails(1), []api.Mail{{UID: 3, Flags: flags(`\Seen`, "a"), Date: noon, Size: 30, ID: 3}, {UID: 6, Date: noon, Size: 1, ID: 7}})
	p.same()
}

// What changes nothing writes nothing.
func TestNothingToWrite(t *testing.T) {
	p := pair(t)
	for _, c := range []call{
		store(1, 1, flags(`\seen`), 3), store(1, 7, flags("b"), 1, 3, 4), store(1, 0, nil), store(1, 2, flags("zzz"), 1, 3), store(1, 0, flags("a"), 99),
		expunge(1, false), expunge(1, false, 1, 3), expunge(3, true), copyTo(1, "to"), moveTo(1, "to", 2), moveTo(1, "INBOX"), appendTo("INBOX"),
		quota(), list("", "*"), lsub("", "*"), status("to"), mails(1), text(1, 1),
	} {
		gen, steps := p.s.Gen(), p.d.Steps()
		p.wants("ann", api.OK, c)
		if p.s.Gen() != gen || p.d.Steps() != steps {
			t.Fatalf("%s wrote something", c.what)
		}
	}
	p.same()
}

// Quota behind each call.
func TestQuota(t *testing.T) {
	p := newPlay(t)
	for _, c := range []struct {
		c   call
		use int
	}{
		{appendTo("INBOX", sized(10, 0, 5)...), 15},
		{create("a/b"), 15},
		{copyTo(1, "a/b", 1, 2), 25},
		{copyTo(1, "INBOX", 3), 30},
		{moveTo(1, "a", 3, 4), 30},
		{moveTo(1, "INBOX", 1), 30},
		{store(3, 1, flags(`\Deleted`), 1), 30},
		{expunge(3, false, 2), 30},
		{expunge(3, false, 1), 25},
		{rename("a", "c"), 25},
		{rename("INBOX", "c/x"), 25},
		{remove("c/b"), 15},
		{subscribe("c/x", true), 15},
		{remove("c/x"), 5},
		{store(3, 1, flags(`\Deleted`), 2), 5},
		{expunge(3, true), 0},
		{appendTo("c", sized(1000)...), 1000},
	} {
		p.wants("ann", api.OK, c.c)
		p.tells("ann", quota(), c.use, 1000)
		p.tells("bob", quota(), 0, 100)
	}
	p.wants("ann", api.ErrQuota, appendTo("c", sized(1)...))
	p.tells("ann", quota(), 1000, 1000)
	p.same()
}
