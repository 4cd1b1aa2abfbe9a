package mail_test

import (
	"math/rand"
	"reflect"
	"slices"
	"testing"
	"time"

	"haversack/api"
	"haversack/mail"
)

// P1, P2, and the rules that hold everywhere.

// roomy is a list with room behind it, in which something stands.
func roomy[T any](behind T, l ...T) []T {
	all := append(slices.Clone(l), behind, behind)
	return all[:len(l)]
}

// wantUntouched: a list is as it was, and so is the room behind it.
func wantUntouched[T any](t *testing.T, what string, l []T, behind T, was []T) {
	t.Helper()
	all := l[:len(l)+2]
	wanted := append(slices.Clone(was), behind, behind)
	if !reflect.DeepEqual(all, wanted) {
		t.Fatalf("%s: what was handed in is %v; it was %v", what, all, wanted)
	}
}

// What is handed in stays as it was.
func TestHandedIn(t *testing.T) {
	p := pair(t)
	x := p.s.Begin()
	defer x.Rollback()
	a := mail.At(x, "ann")
	uids := roomy(77, 5, 3, 3, 1, 9)
	l := roomy("z", "b", `\seen`, "a", "b", `\x`)
	dates := roomy(noon, api.Date{Year: 5}, noon, api.Date{})
	letters := roomy(of("behind"), api.Letter{Flags: l, Date: dates, Text: "x"}, api.Letter{Flags: l, Text: "y"})
	was := slices.Clone(letters)
	for range 2 {
		a.Copy(1, "to", uids...)
		a.Store(1, 0, l, uids...)
		a.Store(1, 1, l, uids...)
		a.Store(1, 2, l, uids...)
		a.Append("INBOX", noon, letters...)
		a.Move(1, "to", uids...)
		a.Store(3, 1, flags(`\Deleted`), uids...)
		a.Expunge(3, false, uids...)
		wantUntouched(t, "UIDs", uids, 77, []int{5, 3, 3, 1, 9})
		wantUntouched(t, "flags", l, "z", []string{"b", `\seen`, "a", "b", `\x`})
		wantUntouched(t, "dates", dates, noon, []api.Date{{Year: 5}, noon, {}})
		wantUntouched(t, "letters", letters, of("behind"), was)
	}
	want(t, "Check", mail.Check(x), api.OK)
}

// What was handed in may be changed behind the call, and nothing of it was kept.
func TestHandedInAndChanged(t *testing.T) {
	p := newPlay(t)
	x := p.s.Begin()
	a := mail.At(x, "ann")
	l, dates := flags("a", "b"), []api.Date{noon}
	letters := []api.Letter{{Flags: l, Date: dates, Text: "x"}}
	if _, e := a.Append("INBOX", noon, letters...); e != api.OK {
		t.Fatal(e)
	}
	more := flags("c")
	if _, e := a.Store(1, 1, more, 1); e != api.OK {
		t.Fatal(e)
	}
	l[0], dates[0], letters[0].Text, more[0] = "zz", api.Date{}, "other", "yy"
	told, _ := a.Mails(1)
	if !same(told, []api.Mail{{UID: 1, Flags: flags("a", "b", "c"), Date: noon, Size: 1, ID: 1}}) {
		t.Fatalf("the message is %+v", told)
	}
	want(t, "Commit", x.Commit(), api.OK)
}

// What is handed out is the caller's own.
func TestHandedOut(t *testing.T) {
	p := pair(t)
	p.wants("ann", api.OK, subscribe("a", true), subscribe("b", true))
	x := p.s.Begin()
	defer x.Rollback()
	a := mail.At(x, "ann")
	for range 2 {
		listed, _ := a.List("", "*")
		if !same(listed, []api.Listed{{Name: "INBOX"}, {Name: "to"}}) {
			t.Fatalf("List is %+v", listed)
		}
		names, _ := a.Lsub("", "*")
		if !slices.Equal(names, []string{"a", "b"}) {
			t.Fatalf("Lsub is %q", names)
		}
		all, _ := a.Mails(1)
		if len(all) != 4 || !slices.Equal(all[1].Flags, flags(`\Seen`, "a")) {
			t.Fatalf("Mails are %+v", all)
		}
		clear(listed)
		clear(names)
		clear(all[1].Flags)
		clear(all)
		listed, names = append(listed[:0], api.Listed{Name: "x"}), append(names[:0], "x")
	}
	p.same()
}

// No two lists of one answer share anything.
func TestHandedOutApart(t *testing.T) {
	p := pair(t)
	x := p.s.Begin()
	defer x.Rollback()
	a := mail.At(x, "ann")
	uids := []int{1, 3}
	for _, do := range []func(id int, to string, uids ...int) ([]int, []int, api.Errno){a.Copy, a.Move} {
		olds, fresh, e := do(1, "INBOX", uids...)
		want(t, "Copy and Move", e, api.OK)
		was := slices.Clone(fresh)
		_ = append(olds, 99)
		for i := range olds {
			olds[i] = -1
		}
		if !slices.Equal(fresh, was) || !slices.Equal(uids, []int{1, 3}) {
			t.Fatalf("the lists are %v and %v", fresh, uids)
		}
	}
	stored, e := a.Store(1, 7, nil, uids...)
	want(t, "Store", e, api.OK)
	stored = append(stored[:0], -1, -1)
	if uids[0] != 1 || len(stored) != 2 {
		t.Fatalf("Store handed out what was handed in: %v", uids)
	}
	for _, m := range p.mails("ann", 1) {
		_ = append(m.Flags, "behind")
	}
	all, _ := a.Mails(1)
	for i := range all {
		_ = append(all[i].Flags, "behind")
	}
	again, _ := a.Mails(1)
	if !same(all, again) {
		t.Fatalf("Mails are %+v, and then %+v", all, again)
	}
}

// A call that is refused ahead of all writes leaves its transaction as it was.
func TestRefusedCallsChangeNothing(t *testing.T) {
	p := pair(t)
	x := p.s.Begin()
	a := mail.At(x, "ann")
	want(t, "Create", a.Create("new"), api.OK)
	want(t, "Create", p.slow.at("ann").Create("new"), api.OK)
	for _, c := range []call{
		create(""), create("to"), remove("INBOX"), remove("no"), rename("no", "x"), rename("to", ""), rename("to", "new"), rename("to", "to/x"),
		subscribe("*", true), status("no"), mails(2), text(1, 2), appendTo("no"), appendTo("to", sized(make([]int, 11)...)...), appendTo("to", sized(50001)...),
		appendTo("to", sized(5000)...), copyTo(2, "to", 1), copyTo(1, "no", 1), moveTo(2, "to", 1), moveTo(1, "no", 1), store(2, 0, nil, 1), expunge(2, true),
	} {
		if e, _ := c.do(a); e == api.OK {
			t.Fatalf("%s is OK", c.what)
		}
		wantSame(t, x, p.slow)
	}
	want(t, "AddUser", mail.AddUser(x, "ann", "q", 5), api.ErrThere)
	want(t, "AddUser", mail.AddUser(x, "eve", "q", -5), api.ErrArg)
	want(t, "Login", mail.Login(x, "eve", "q"), api.ErrAuth)
	wantSame(t, x, p.slow)
	want(t, "Commit", x.Commit(), api.OK)
	p.same()
}

// Looks change nothing, however often, and each time tell the same.
func TestLooksAgain(t *testing.T) {
	p := pair(t)
	x := p.s.Begin()
	for range 3 {
		wantSame(t, x, p.slow)
	}
	gen := p.s.Gen()
	want(t, "Commit", x.Commit(), api.OK)
	if p.s.Gen() != gen {
		t.Fatal("looks have written something")
	}
}

// A transaction sees what was there when it began, whatever others do.
func TestSnapshot(t *testing.T) {
	p := pair(t)
	x, was := p.s.Begin(), p.slow.copy()
	p.wants("ann", api.OK, appendTo("to", of("z")), moveTo(1, "to", 1), store(1, 0, flags("q"), 3), rename("to", "a/b"), rename("INBOX", "c"), subscribe("s", true))
	p.adds("eve", "", 0)
	wantSame(t, x, was)
	want(t, "Login", mail.Login(x, "eve", ""), api.ErrAuth)
	x.Rollback()
	p.same()
}

// Two accounts of one transaction, of one user or of two, see what each other does.
func TestAccountsOfOneTransaction(t *testing.T) {
	p := newPlay(t)
	x := p.s.Begin()
	want(t, "AddUser", mail.AddUser(x, "eve", "e", 50), api.OK)
	want(t, "AddUser", p.slow.AddUser("eve", "e", 50), api.OK)
	want(t, "AddUser", mail.AddUser(x, "eve", "e", 50), api.ErrThere)
	want(t, "Login", mail.Login(x, "eve", "e"), api.OK)
	for _, c := range []call{create("a"), appendTo("a", of("1")), copyTo(4, "INBOX", 1), moveTo(3, "a", 1)} {
		slow, e := p.both(x, "eve", c)
		want(t, c.what, e, api.OK)
		p.slow = slow
		slow, e = p.both(x, "bob", appendTo("INBOX", of("y")))
		want(t, "Append", e, api.OK)
		p.slow = slow
		wantSame(t, x, p.slow)
	}
	want(t, "Commit", x.Commit(), api.OK)
	p.same()
	p.anew()
	p.same()
}

// The same calls on two stores leave the same disk: nothing hangs on the order of a map.
func TestTheSameDisk(t *testing.T) {
	for seed := range int64(5) {
		a, b := newPlay(t), newPlay(t)
		r, s := rand.New(rand.NewSource(seed)), rand.New(rand.NewSource(seed))
		for range 100 {
			a.turn(r, "ann")
			b.turn(s, "ann")
		}
		for n := range a.d.Size() {
			x, _ := a.d.Read(n)
			y, _ := b.d.Read(n)
			if !slices.Equal(x, y) {
				t.Fatalf("the sector %d is not the same", n)
			}
		}
	}
}

// P1: long lists, and long texts where names are asked for.
func TestLong(t *testing.T) {
	p := crowded(t, api.MaxMails)
	began := time.Now()
	uids := make([]int, 1<<20)
	for i := range uids {
		uids[i] = 2*(len(uids)-i) - 1
	}
	p.wants("ann", api.OK, create("a"))
	x := p.s.Begin()
	a := mail.At(x, "ann")
	many := slices.Repeat(flags("a", "b", `\x`, "nil"), 1<<10)
	if l, e := a.Store(1, 0, many, uids...); e != api.OK || len(l) != 150 {
		t.Fatalf("Store tells %d UIDs, %v", len(l), e)
	}
	if l, _, e := a.Copy(1, "a", uids...); e != api.OK || len(l) != 150 {
		t.Fatalf("Copy tells %d UIDs, %v", len(l), e)
	}
	if l, _, e := a.Move(1, "a", uids...); e != api.OK || len(l) != 150 {
		t.Fatalf("Move tells %d UIDs, %v", len(l), e)
	}
	if l, e := a.Expunge(1, false, uids...); e != api.OK || len(l) != 0 {
		t.Fatalf("Expunge tells %d UIDs, %v", len(l), e)
	}
	x.Rollback()
	long := times(1 << 22)
	for _, user := range []string{"ann", long} {
		for _, c := range []call{
			create(long), remove(long), rename(long, "x"), rename("a", long), rename(long, long), subscribe(long, true), list(long, long), lsub(long, "*"),
			status(long), appendTo(long, of(long)), appendTo("a", of(long)), copyTo(1, long, 1), moveTo(1, long, 1), store(1, 1, flags(long, "a"), 1),
		} {
			p.try(user, c)
		}
	}
	x = p.s.Begin()
	want(t, "AddUser", mail.AddUser(x, long, long, 5), api.ErrArg)
	want(t, "Login", mail.Login(x, "ann", long), api.ErrAuth)
	want(t, "Login", mail.Login(x, long, long), api.ErrAuth)
	x.Rollback()
	if took := time.Since(began); took > 20*time.Second {
		t.Fatalf("that took %v", took)
	}
}
