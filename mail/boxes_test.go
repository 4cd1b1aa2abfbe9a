package mail_test

import (
	"strconv"
	"strings"
	"testing"

	"haversack/api"
)

// P17.2: Create, Delete, Rename, Subscribe.

// inboxes are INBOX in whatever letters.
var inboxes = []string{"INBOX", "inbox", "Inbox", "iNbOx", "INBOx", "iNBOX"}

// wrongNames are names that may not be.
var wrongNames = []string{
	"", "/", "a/", "/a", "a//b", "INBOX/", "/INBOX", "*", "a*", "%", "a%b", "a\x00", "\n", "a\x1f", "a\x7fb", "\xff", "a\xc3", "\xed\xa0\x80",
	times(api.MaxName + 1), times(1 << 20), "a/b/c/d/e/f/g/h/i", strings.Repeat("é", 20) + "x", strings.Repeat("/", 30), "INBOX/" + times(35),
}

// rightNames are names that may be, and that need no other one but INBOX.
var rightNames = []string{
	"a", "A", "0", " ", "a b", "&", "~", "é", "日本", "\u0080", times(api.MaxName), strings.Repeat("é", 20), "INBOXx", "INBO", "xINBOX",
	"\u0131nbox", "INBOX/" + times(34), "INBOX ", "\\", "\"", "a.b", "-", "inboxé",
}

func TestCreateNames(t *testing.T) {
	p := newPlay(t)
	for _, name := range wrongNames {
		want(t, what("Create", name), p.try("ann", create(name)), api.ErrForm)
	}
	for _, name := range rightNames {
		want(t, what("Create", name), p.try("ann", create(name)), api.OK)
		p.wants("bob", api.OK, create(name))
		p.wants("bob", api.ErrThere, create(name))
		p.tells("bob", list("", name), []api.Listed{{Name: name}})
		p.tells("bob", status(name), api.Status{ID: p.slow.boxes, Validity: p.slow.validities, Next: 1})
	}
	p.same()
}

// Each letter below 128, and some above, alone and among others.
func TestCreateEachByte(t *testing.T) {
	p := newPlay(t)
	for b := range 256 {
		sign := string([]byte{byte(b)})
		wanted := api.OK
		if b < 32 || b >= 127 || strings.Contains("*%/", sign) {
			wanted = api.ErrForm
		}
		for _, name := range []string{sign, sign + "x", "x" + sign} {
			want(t, what("Create", name), p.try("ann", create(name)), wanted)
			want(t, what("Subscribe", name), p.try("ann", subscribe(name, true)), wanted)
		}
	}
}

func TestCreateInbox(t *testing.T) {
	p := newPlay(t)
	for _, name := range inboxes {
		want(t, what("Create", name), p.try("ann", create(name)), api.ErrThere)
		x := p.fork(t)
		x.wants("ann", api.OK, create(name+"/a"))
		x.wants("ann", api.ErrThere, create("INBOX/a"), create("inbox/a"))
		x.wants("ann", api.OK, create("Inbox/A"))
		x.tells("ann", list("", "*"), []api.Listed{{Name: "INBOX", Kids: true}, {Name: "INBOX/A"}, {Name: "INBOX/a"}})
		x.tells("ann", status(name+"/a"), api.Status{ID: 3, Validity: 3, Next: 1})
		x.same()
	}
}

// The names that one is under are made, the shortest first.
func TestCreateAbove(t *testing.T) {
	p := newPlay(t)
	p.wants("ann", api.OK, create("a/b/c/d"))
	for i, name := range []string{"a", "a/b", "a/b/c", "a/b/c/d"} {
		p.tells("ann", status(name), api.Status{ID: 3 + i, Validity: 3 + i, Next: 1})
	}
	p.wants("ann", api.OK, create("a/b/x/y"))
	p.tells("ann", status("a/b/x"), api.Status{ID: 7, Validity: 7, Next: 1})
	p.tells("ann", status("a/b/x/y"), api.Status{ID: 8, Validity: 8, Next: 1})
	p.wants("ann", api.ErrThere, create("a/b"), create("a"))
	p.wants("ann", api.OK, create("1/2/3/4/5/6/7/8"))
	p.wants("ann", api.ErrForm, create("1/2/3/4/5/6/7/8/9"))
	p.same()
}

// filled is a store where ann has so many mailboxes: INBOX, and b1, b2 and on.
func filled(t *testing.T, boxes int) *play {
	t.Helper()
	p := newPlay(t)
	for i := 1; i < boxes; i++ {
		p.wants("ann", api.OK, create("b"+strconv.Itoa(i)))
	}
	return p
}

func TestMaxBoxes(t *testing.T) {
	p := filled(t, api.MaxBoxes-3)
	for _, c := range []struct {
		c      call
		wanted api.Errno
	}{
		{create("x/y/z"), api.OK},
		{create("x/y/z/v"), api.ErrMany},
		{create("b1/x/y/z/v"), api.ErrMany},
		{create("b1/x/y/z"), api.OK},
		{rename("b1", "x/y/z/v"), api.OK},
		{rename("b1", "x/y/z/v/w"), api.ErrMany},
		{rename("INBOX", "x/y/z"), api.OK},
		{rename("INBOX", "x/y/z/w"), api.ErrMany},
		{rename("INBOX", "x/y/z/v/w"), api.ErrMany},
	} {
		want(t, c.c.what, p.try("ann", c.c), c.wanted)
	}
	p.wants("ann", api.OK, create("x/y/z"))
	p.wants("ann", api.ErrMany, create("c"), create("b1/c"), create("c/d"), create("inbox/c"), rename("INBOX", "c"), rename("INBOX", "INBOX/c"), rename("b1", "c/d"))
	p.wants("ann", api.ErrThere, create("b1"))
	p.wants("ann", api.ErrForm, create(""), rename("INBOX", "*"))
	p.wants("bob", api.OK, create("c"))
	p.wants("ann", api.OK, rename("b1", "b2/c"), subscribe("c", true), remove("b3"))
	p.wants("ann", api.ErrMany, create("c/d"), rename("INBOX", "c/d"))
	want(t, "Rename", p.try("ann", rename("INBOX", "c")), api.OK)
	p.wants("ann", api.OK, create("c"))
	p.wants("ann", api.ErrMany, create("d"))
	p.same()
}

func TestDelete(t *testing.T) {
	p := newPlay(t)
	p.wants("ann", api.OK, create("a/b"), create("ab"), create("a b"), create("a!"), create("inbox/c/d"), appendTo("a/b", sized(4, 5)...))
	for _, name := range inboxes {
		p.wants("ann", api.ErrArg, remove(name))
	}
	for _, name := range append(wrongNames, "b", "A", "a/b/c", "c", "INBOX/d", "a/") {
		p.wants("ann", api.ErrNone, remove(name))
	}
	p.wants("ann", api.ErrState, remove("a"), remove("INBOX/c"), remove("inBOX/c"))
	p.tells("ann", quota(), 9, 1000)
	p.wants("ann", api.OK, remove("a/b"))
	p.tells("ann", quota(), 0, 1000)
	p.wants("ann", api.ErrNone, remove("a/b"), status("a/b"), mails(4), text(4, 1))
	p.wants("ann", api.OK, remove("a"), remove("inbox/c/d"), remove("INBOX/c"), remove("ab"))
	p.tells("ann", list("", "*"), []api.Listed{{Name: "INBOX"}, {Name: "a b"}, {Name: "a!"}})
	p.same()
	p.wants("ann", api.OK, create("a/b"))
	p.tells("ann", status("a/b"), api.Status{ID: 11, Validity: 11, Next: 1})
	p.same()
}

// A text that is elsewhere, too, stays.
func TestDeleteLeavesTexts(t *testing.T) {
	p := newPlay(t)
	p.wants("ann", api.OK, create("a"), create("b"), appendTo("a", sized(4, 5)...), copyTo(3, "b", 1), copyTo(4, "b", 1))
	p.tells("ann", quota(), 17, 1000)
	p.wants("ann", api.OK, remove("a"))
	p.tells("ann", quota(), 8, 1000)
	p.tells("ann", text(4, 2), "aaaa")
	p.same()
	p.wants("ann", api.OK, remove("b"))
	p.tells("ann", quota(), 0, 1000)
	p.same()
}

func TestRename(t *testing.T) {
	p := newPlay(t)
	p.wants("ann", api.OK, create("a/b/c"), create("a/d"), create("ab/c"), create("a b"), appendTo("a/b", sized(4, 5)...), store(4, 1, flags(`\Seen`), 1))
	p.wants("ann", api.ErrNone, rename("b", "x"), rename("", "x"), rename("A", "x"), rename("*", ""), rename("a/x", "a"), rename("x", "x"))
	for _, name := range wrongNames {
		p.wants("ann", api.ErrForm, rename("a", name), rename("INBOX", name))
	}
	p.wants("ann", api.ErrThere, rename("a", "a"), rename("a", "a/b"), rename("a/b", "a"), rename("a", "ab"), rename("a", "inbox"), rename("INBOX", "INBOX"), rename("inbox", "Inbox"), rename("INBOX", "a"), rename("ab/c", "a/b/c"))
	p.wants("ann", api.ErrArg, rename("a", "a/x"), rename("a", "a/b/x"), rename("a/b", "a/b/c/d/e"), rename("a b", "a b/c"))
	p.wants("ann", api.OK, rename("a", "x/y"))
	p.tells("ann", list("", "*"), []api.Listed{{Name: "INBOX"}, {Name: "a b"}, {Name: "ab", Kids: true}, {Name: "ab/c"},
		{Name: "x", Kids: true}, {Name: "x/y", Kids: true}, {Name: "x/y/b", Kids: true}, {Name: "x/y/b/c"}, {Name: "x/y/d"}})
	p.tells("ann", status("x/y/b"), api.Status{ID: 4, Validity: 4, Next: 3, Messages: 2, Unseen: 1, Size: 9})
	p.tells("ann", status("x"), api.Status{ID: 10, Validity: 10, Next: 1})
	p.same()
	p.wants("ann", api.OK, rename("x/y", "inBox/z"), rename("INBOX/z/b", "a"), rename("a/c", "INBOX/z/b/c"), rename("inbox/z", "z"))
	p.tells("ann", list("", "%"), []api.Listed{{Name: "INBOX"}, {Name: "a"}, {Name: "a b"}, {Name: "ab", Kids: true}, {Name: "x"}, {Name: "z", Kids: true}})
	p.same()
}

// A name under one that is moved may become one that may not be.
func TestRenameTooFar(t *testing.T) {
	p := newPlay(t)
	p.wants("ann", api.OK, create("a/b/c/d"), create("e/"+times(30)))
	for _, c := range []struct {
		from, to string
		wanted   api.Errno
	}{
		{"a", "1/2/3/4/5", api.OK},
		{"a", "1/2/3/4/5/6", api.ErrForm},
		{"a/b", "1/2/3/4/5/6", api.OK},
		{"a/b", "1/2/3/4/5/6/7", api.ErrForm},
		{"a/b/c/d", "1/2/3/4/5/6/7/8", api.OK},
		{"a/b/c/d", "1/2/3/4/5/6/7/8/9", api.ErrForm},
		{"e", times(9), api.OK},
		{"e", times(10), api.ErrForm},
		{"e", "1/" + times(7), api.OK},
		{"e", "1/" + times(8), api.ErrForm},
		{"a", times(34), api.OK},
		{"a", times(35), api.ErrForm},
		{"INBOX", times(40), api.OK},
		{"INBOX", times(41), api.ErrForm},
	} {
		want(t, what("Rename", c.from, c.to), p.try("ann", rename(c.from, c.to)), c.wanted)
	}
	p.same()
}

func TestRenameInbox(t *testing.T) {
	for _, name := range inboxes {
		p := newPlay(t)
		p.wants("ann", api.OK, create("INBOX/a/b"), appendTo(name, sized(4, 5)...), rename(name, "x/y"))
		p.tells("ann", list("", "*"), []api.Listed{{Name: "INBOX", Kids: true}, {Name: "INBOX/a", Kids: true}, {Name: "INBOX/a/b"}, {Name: "x", Kids: true}, {Name: "x/y"}})
		p.tells("ann", status("x/y"), api.Status{ID: 1, Validity: 1, Next: 3, Messages: 2, Unseen: 2, Size: 9})
		p.tells("ann", status("x"), api.Status{ID: 5, Validity: 5, Next: 1})
		p.tells("ann", status("INBOX"), api.Status{ID: 6, Validity: 6, Next: 1})
		p.wants("ann", api.OK, appendTo("INBOX", of("z")), rename("inbox", "inbox/c"), rename("INBOX", "Inbox/a/c"))
		p.tells("ann", status("INBOX/c"), api.Status{ID: 6, Validity: 6, Next: 2, Messages: 1, Unseen: 1, Size: 1})
		p.tells("ann", status("INBOX"), api.Status{ID: 8, Validity: 8, Next: 1})
		p.wants("ann", api.ErrThere, rename("INBOX", "INBOX/a"), rename("INBOX", "inbox"))
		p.same()
	}
}

func TestSubscribe(t *testing.T) {
	p := newPlay(t)
	for _, name := range wrongNames {
		p.wants("ann", api.ErrForm, subscribe(name, true), subscribe(name, false))
	}
	p.wants("ann", api.OK, subscribe("a", false), subscribe("a", true), subscribe("a", true), subscribe("INBOX/x", true), subscribe("b/c", true), subscribe("b", true), subscribe("é", true))
	for _, name := range inboxes {
		p.wants("ann", api.OK, subscribe(name, true), subscribe(name+"/y", true))
	}
	p.wants("bob", api.OK, subscribe("z", true))
	p.tells("ann", lsub("", "*"), []string{"INBOX", "INBOX/x", "INBOX/y", "a", "b", "b/c", "é"})
	p.tells("ann", list("", "*"), []api.Listed{{Name: "INBOX"}})
	p.wants("ann", api.OK, subscribe("inbox/x", false), subscribe("a", false), subscribe("a", false), subscribe("A", false), create("b/c"), rename("b", "d"), remove("d/c"))
	p.tells("ann", lsub("", "*"), []string{"INBOX", "INBOX/y", "b", "b/c", "é"})
	p.wants("ann", api.OK, subscribe("iNBox", false))
	p.tells("ann", lsub("", "I*"), []string{"INBOX/y"})
	p.tells("bob", lsub("", "*"), []string{"z"})
	p.same()
}

// There is no bound to what one is subscribed to.
func TestSubscribeToMany(t *testing.T) {
	t.Parallel()
	p := widePlay(t)
	x := p.s.Begin()
	slow := p.slow.copy()
	for i := range 25000 {
		name := strconv.Itoa(i)
		want(t, "Subscribe", p.at(x, "ann").Subscribe(name, true), api.OK)
		slow.at("ann").Subscribe(name, true)
	}
	want(t, "Commit", x.Commit(), api.OK)
	p.slow = slow
	p.same()
	p.wants("ann", api.OK, subscribe("9999", false))
	p.same()
}

// All names in turn, from what there is to what there may be.
func TestRenameEachToEach(t *testing.T) {
	t.Parallel()
	p := newPlay(t)
	p.wants("ann", api.OK, create("a/b/c"), create("ab"), create("INBOX/d"), appendTo("a/b", sized(4)...), appendTo("INBOX", sized(7)...))
	all := []string{"a", "a/b", "a/b/c", "a/x", "ab", "ab/x", "a/b/x/y", "x", "x/a", "inbox", "INBOX/d", "inbox/e/f", "INBOX/d/e", "", "a/", "A", "a/b/c/" + times(30), "1/2/3/4/5/6", "1/2/3/4/5/6/7/8"}
	for _, from := range all {
		for _, to := range all {
			p.try("ann", rename(from, to))
			x := p.fork(t)
			if x.does("ann", rename(from, to)) == api.OK {
				x.does("ann", rename(to, from))
				x.same()
			}
		}
		p.try("ann", create(from))
		p.try("ann", remove(from))
		p.try("ann", status(from))
	}
}
