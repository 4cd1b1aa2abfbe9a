package mail_test

import (
	"math"
	"testing"

	"haversack/api"
)

// P17.5: Copy, Move.

// pair is a store where ann's INBOX (1) has five messages of 10 to 50 bytes, of which the second is gone, and the mailbox to (3) has one of 7.
func pair(t *testing.T) *play {
	t.Helper()
	p := newPlay(t)
	p.wants("ann", api.OK, create("to"), appendTo("INBOX", sized(10, 20, 30, 40, 50)...), appendTo("to", sized(7)...),
		store(1, 1, flags(`\Deleted`), 2), expunge(1, true),
		store(1, 0, flags(`\Seen`, "a"), 3), store(1, 0, flags(`\Deleted`), 4))
	return p
}

// picks are UIDs as they may be asked for, and those that are meant.
var picks = []struct{ uids, wanted []int }{
	{nil, nil},
	{[]int{1}, []int{1}},
	{[]int{2}, nil},
	{[]int{3, 1}, []int{1, 3}},
	{[]int{5, 4, 3, 2, 1}, []int{1, 3, 4, 5}},
	{[]int{3, 3, 3}, []int{3}},
	{[]int{5, 1, 5, 1}, []int{1, 5}},
	{[]int{0, -1, 6, 7, 100, math.MaxInt, math.MinInt, 1 << 32}, nil},
	{[]int{0, 6, 4, -4, math.MaxInt, math.MinInt, 4}, []int{4}},
	{numbered(-1000, 1000), []int{1, 3, 4, 5}},
}

func TestCopy(t *testing.T) {
	p := pair(t)
	for _, c := range picks {
		x := p.fork(t)
		was := x.mails("ann", 1)
		x.tellsOf("ann", copyTo(1, "to", c.uids...), c.wanted, numbered(2, 1+len(c.wanted)))
		if !same(x.mails("ann", 1), was) {
			t.Fatalf("Copy of %v leaves %+v; want %+v", c.uids, x.mails("ann", 1), was)
		}
		x.same()
	}
	p.wants("ann", api.OK, copyTo(1, "to", 5, 3))
	p.tells("ann", mails(3), []api.Mail{
		{UID: 1, Date: noon, Size: 7, ID: 6},
		{UID: 2, Flags: flags(`\Seen`, "a"), Date: noon, Size: 30, ID: 3},
		{UID: 3, Date: noon, Size: 50, ID: 5},
	})
	p.tells("ann", quota(), 137+80, 1000)
	p.wants("ann", api.OK, copyTo(3, "to", 2), copyTo(3, "inbox", 4, 1))
	p.tells("ann", mails(1), []api.Mail{
		{UID: 1, Date: noon, Size: 10, ID: 1},
		{UID: 3, Flags: flags(`\Seen`, "a"), Date: noon, Size: 30, ID: 3},
		{UID: 4, Flags: flags(`\Deleted`), Date: noon, Size: 40, ID: 4},
		{UID: 5, Date: noon, Size: 50, ID: 5},
		{UID: 6, Date: noon, Size: 7, ID: 6},
		{UID: 7, Flags: flags(`\Seen`, "a"), Date: noon, Size: 30, ID: 3},
	})
	p.tells("ann", text(1, 7), p.slow.textOf("ann", "INBOX", 3))
	p.same()
}

func TestMove(t *testing.T) {
	p := pair(t)
	for _, c := range picks {
		x := p.fork(t)
		x.tellsOf("ann", moveTo(1, "to", c.uids...), c.wanted, numbered(2, 1+len(c.wanted)))
		x.tells("ann", quota(), 137, 1000)
		x.same()
		x = p.fork(t)
		x.tellsOf("ann", moveTo(1, "inbox", c.uids...), c.wanted, numbered(6, 5+len(c.wanted)))
		x.tells("ann", quota(), 137, 1000)
		x.same()
	}
	p.wants("ann", api.OK, moveTo(1, "to", 4, 3))
	p.tells("ann", mails(1), []api.Mail{{UID: 1, Date: noon, Size: 10, ID: 1}, {UID: 5, Date: noon, Size: 50, ID: 5}})
	p.tells("ann", mails(3), []api.Mail{
		{UID: 1, Date: noon, Size: 7, ID: 6},
		{UID: 2, Flags: flags(`\Seen`, "a"), Date: noon, Size: 30, ID: 3},
		{UID: 3, Flags: flags(`\Deleted`), Date: noon, Size: 40, ID: 4},
	})
	p.tells("ann", status("INBOX"), api.Status{ID: 1, Validity: 1, Next: 6, Messages: 2, Unseen: 2, Size: 60})
	p.tells("ann", status("to"), api.Status{ID: 3, Validity: 3, Next: 4, Messages: 3, Unseen: 2, Deleted: 1, Size: 77})
	p.wants("ann", api.OK, moveTo(3, "to", 1, 2))
	p.tells("ann", status("to"), api.Status{ID: 3, Validity: 3, Next: 6, Messages: 3, Unseen: 2, Deleted: 1, Size: 77})
	p.same()
}

func TestCopyToNone(t *testing.T) {
	p := pair(t)
	for _, name := range append(wrongNames, "t", "TO", "to/to") {
		p.wants("ann", api.ErrNone, copyTo(1, name, 1), copyTo(1, name), moveTo(1, name, 1), moveTo(1, name))
	}
	for _, id := range ids {
		p.wants("ann", api.ErrNone, copyTo(id, "to", 1), copyTo(id, "to"), copyTo(id, "no"), moveTo(id, "to", 1), moveTo(id, "to"))
	}
	for _, name := range inboxes {
		want(t, "Copy", p.try("ann", copyTo(3, name, 1)), api.OK)
		want(t, "Move", p.try("ann", moveTo(3, name, 1)), api.OK)
	}
	p.same()
}

func TestCopyUpToMaxMails(t *testing.T) {
	t.Parallel()
	p := crowded(t, api.MaxMails-2)
	p.wants("ann", api.OK, create("a"), appendTo("a", sized(1, 2, 3)...))
	for _, c := range []struct {
		c      call
		wanted api.Errno
	}{
		{copyTo(2, "INBOX", 1, 2), api.OK},
		{copyTo(2, "INBOX", 1, 2, 3), api.ErrMany},
		{copyTo(2, "INBOX", 1, 2, 1, 2, 9), api.OK},
		{moveTo(2, "INBOX", 1, 3), api.OK},
		{moveTo(2, "INBOX", 3, 2, 1), api.ErrMany},
		{copyTo(1, "INBOX", 1, 2), api.OK},
		{copyTo(1, "INBOX", 1, 2, 3), api.ErrMany},
		{moveTo(1, "INBOX", numbered(1, 298)...), api.OK},
		{moveTo(1, "a", numbered(1, 297)...), api.OK},
		{moveTo(1, "a", numbered(1, 298)...), api.ErrMany},
		{copyTo(1, "a", numbered(1, 297)...), api.OK},
		{copyTo(1, "a", numbered(1, 298)...), api.ErrMany},
		{copyTo(1, "a", numbered(1, 11)...), api.OK},
	} {
		want(t, c.c.what, p.try("ann", c.c), c.wanted)
	}
	p.wants("ann", api.OK, moveTo(2, "INBOX", 1, 2))
	p.wants("ann", api.ErrMany, moveTo(2, "INBOX", 3), copyTo(2, "INBOX", 3), copyTo(1, "INBOX", 1))
	p.wants("ann", api.OK, moveTo(1, "INBOX", numbered(1, 1000)...), copyTo(1, "INBOX"), moveTo(2, "INBOX"), copyTo(2, "INBOX", 1), copyTo(1, "INBOX", 1))
	p.tells("ann", status("INBOX"), api.Status{ID: 1, Validity: 1, Next: 601, Messages: 300, Unseen: 300, Size: p.slow.at("ann").use() - 3})
	p.same()
	// Of a full one to an empty one, and back.
	p.wants("ann", api.OK, create("b"), moveTo(1, "b", numbered(1, 600)...), moveTo(3, "INBOX", numbered(1, 600)...), copyTo(1, "b", numbered(600, 900)...))
	p.same()
}

func TestCopyUpToTheLimit(t *testing.T) {
	p := newPlay(t)
	p.wants("bob", api.OK, create("a"), appendTo("INBOX", sized(20, 21, 10)...))
	for _, c := range []struct {
		c      call
		wanted api.Errno
	}{
		{copyTo(2, "a", 1, 2), api.OK},
		{copyTo(2, "a", 1, 2, 3), api.ErrQuota},
		{copyTo(2, "a", 1, 1, 2, 2, 5), api.OK},
		{copyTo(2, "INBOX", 1, 2), api.OK},
		{copyTo(2, "INBOX", 1, 2, 3), api.ErrQuota},
		{moveTo(2, "a", 1, 2, 3), api.OK},
	} {
		want(t, c.c.what, p.try("bob", c.c), c.wanted)
	}
	p.wants("bob", api.OK, appendTo("a", sized(18)...), copyTo(2, "a", 2), copyTo(2, "a", 3))
	p.tells("bob", quota(), 100, 100)
	p.wants("bob", api.ErrQuota, copyTo(2, "a", 3), copyTo(3, "a", 1))
	p.wants("bob", api.OK, moveTo(2, "a", 1, 2, 3), moveTo(3, "a", 1, 2), moveTo(3, "INBOX", numbered(1, 9)...), appendTo("a", of("")), copyTo(2, "a"), copyTo(3, "INBOX", 9))
	p.tells("bob", quota(), 100, 100)
	p.same()
	p.wants("bob", api.ErrQuota, appendTo("a", sized(1)...))
}

// A mailbox that is full is told ahead of a limit.
func TestCopyErrorsInOrder(t *testing.T) {
	p := emptyPlay(t, api.MaxSectors)
	p.adds("ann", "", 300)
	p.wants("ann", api.OK, create("a"), appendTo("a", of("x")))
	for len(p.mails("ann", 1)) < 299 {
		p.wants("ann", api.OK, appendTo("INBOX", of("x")))
	}
	p.wants("ann", api.OK, appendTo("INBOX", of("")))
	p.wants("ann", api.ErrMany, appendTo("INBOX", of("x")), copyTo(2, "INBOX", 1), copyTo(1, "INBOX", 1))
	p.wants("ann", api.ErrQuota, appendTo("a", of("x")), copyTo(2, "a", 1))
	p.same()
}

// A text that several messages hold is there till the last of them goes.
func TestTextsThatAreHeld(t *testing.T) {
	p := newPlay(t)
	long := times(500)
	p.adds("eve", "", 5000)
	p.wants("eve", api.OK, appendTo("INBOX", of(long)), create("a"), copyTo(3, "a", 1), copyTo(3, "a", 1), copyTo(4, "INBOX", 2))
	for _, c := range []call{moveTo(4, "INBOX", 1), store(3, 1, flags(`\Deleted`), 1, 2), expunge(3, true), remove("a")} {
		p.wants("eve", api.OK, c)
		p.same()
	}
	p.tells("eve", mails(3), []api.Mail{{UID: 3, Date: noon, Size: 500, ID: 1}})
	p.tells("eve", text(3, 3), long)
	p.tells("eve", quota(), 500, 5000)
	free := p.s.Free()
	p.wants("eve", api.OK, store(3, 1, flags(`\Deleted`), 3), expunge(3, true))
	p.tells("eve", quota(), 0, 5000)
	if p.s.Free() <= free {
		t.Fatalf("%d pages are free, %d ahead of it: the text is still there", p.s.Free(), free)
	}
	p.same()
}
