package mail_test

import (
	"math"
	"strings"
	"testing"

	"haversack/api"
	"haversack/mail"
	"haversack/txn"
)

// P17.1: AddUser, Login, At.

// wantAdd: a user with this name may be, or not.
func wantAdd(t *testing.T, p *play, user string, wanted api.Errno) {
	t.Helper()
	x := p.s.Begin()
	defer x.Rollback()
	want(t, what("AddUser", user), mail.AddUser(x, user, "p", 5), wanted)
	if wanted != api.OK {
		return
	}
	want(t, what("Login", user), mail.Login(x, user, "p"), api.OK)
	want(t, what("AddUser", user), mail.AddUser(x, user, "p", 5), api.ErrThere)
	l, e := mail.At(x, user).List("", "*")
	if e != api.OK || len(l) != 1 || l[0] != (api.Listed{Name: "INBOX"}) {
		t.Fatalf("%s has %v, %v", user, l, e)
	}
	want(t, "Check", mail.Check(x), api.OK)
}

func TestNamesOfUsers(t *testing.T) {
	p := newPlay(t)
	const letters = "abcdefghijklmnopqrstuvwxyzABCDEFGHIJKLMNOPQRSTUVWXYZ0123456789"
	for b := range 256 {
		wanted := api.ErrArg
		if strings.IndexByte(letters, byte(b)) >= 0 {
			wanted = api.OK
		}
		sign := string([]byte{byte(b)})
		for _, user := range []string{sign, "x" + sign, sign + "x", "x" + sign + "x", "abcdefghijk" + sign} {
			wantAdd(t, p, user, wanted)
		}
		wantAdd(t, p, "abcdefghijkl"+sign, api.ErrArg)
	}
	for n := range 100 {
		wanted := api.OK
		if n < 1 || n > api.MaxUser {
			wanted = api.ErrArg
		}
		wantAdd(t, p, times(n), wanted)
	}
	for _, user := range []string{"é", "\u0131", "ann ", " ann", "ann/", "an/n", "\x00", "ann\x00", times(1 << 20)} {
		wantAdd(t, p, user, api.ErrArg)
	}
	for _, user := range []string{"Ann", "ANN", "an", "annn", "0", "00"} {
		wantAdd(t, p, user, api.OK)
	}
}

func TestPasswords(t *testing.T) {
	p := newPlay(t)
	for i, c := range []struct {
		password string
		wanted   api.Errno
	}{
		{"", api.OK}, {" ", api.OK}, {"p w", api.OK}, {"12 13 ", api.OK}, {"\x00\xff\r\n/", api.OK},
		{times(api.MaxName - 1), api.OK}, {times(api.MaxName), api.OK},
		{times(api.MaxName + 1), api.ErrArg}, {times(1 << 20), api.ErrArg},
		{strings.Repeat("é", 20), api.OK}, {strings.Repeat("é", 21), api.ErrArg},
	} {
		user := "u" + string(rune('a'+i))
		want(t, what("AddUser", user, c.password), p.tryAdd(user, c.password, 7), c.wanted)
		x := p.s.Begin()
		for _, password := range []string{c.password, "", " ", c.password + " ", c.password + "\x00", " " + c.password, c.password[:len(c.password)/2], "7 " + c.password, "p"} {
			wanted := api.ErrAuth
			if c.wanted == api.OK && password == c.password {
				wanted = api.OK
			}
			want(t, what("Login", user, c.password, password), mail.Login(x, user, password), wanted)
		}
		x.Rollback()
	}
	p.same()
}

func TestLimits(t *testing.T) {
	p := newPlay(t)
	for i, limit := range []int{math.MinInt, -2, -1, 0, 1, 39, 1 << 32, math.MaxInt} {
		wanted := api.OK
		if limit < 0 {
			wanted = api.ErrArg
		}
		user := "u" + string(rune('a'+i))
		want(t, what("AddUser", user, limit), p.tryAdd(user, "p", limit), wanted)
		if wanted == api.OK {
			p.tells(user, quota(), 0, limit)
			p.wants(user, api.OK, appendTo("INBOX", of("")))
		}
	}
	p.wants("ud", api.ErrQuota, appendTo("INBOX", of("x")))
	p.wants("ue", api.OK, appendTo("INBOX", of("x")))
	p.wants("uh", api.OK, appendTo("INBOX", of("x")))
	p.same()
}

func TestUsersThatAreThere(t *testing.T) {
	p := newPlay(t)
	want(t, "AddUser", p.tryAdd("ann", "q", 5), api.ErrThere)
	want(t, "AddUser", p.tryAdd("ann", "p", 1000), api.ErrThere)
	want(t, "AddUser ahead of ErrThere", p.tryAdd("ann", times(41), 5), api.ErrArg)
	want(t, "AddUser ahead of ErrThere", p.tryAdd("ann", "q", -1), api.ErrArg)
	want(t, "AddUser", p.tryAdd("Ann", "q", 5), api.OK)
	x := p.s.Begin()
	want(t, "Login", mail.Login(x, "ann", "p"), api.OK)
	want(t, "Login", mail.Login(x, "ann", "q"), api.ErrAuth)
	want(t, "Login", mail.Login(x, "Ann", "q"), api.OK)
	want(t, "Login", mail.Login(x, "ANN", "q"), api.ErrAuth)
	for _, user := range []string{"", "an", "annn", "ann ", "ann/", "ann/INBOX", none, "\x00", times(1 << 20)} {
		want(t, what("Login", user), mail.Login(x, user, "p"), api.ErrAuth)
		want(t, what("Login", user), mail.Login(x, user, ""), api.ErrAuth)
	}
	x.Rollback()
	p.same()
}

// Mailboxes and validities are counted for all users together.
func TestFirstMailboxes(t *testing.T) {
	p := newPlay(t)
	p.tells("ann", status("INBOX"), api.Status{ID: 1, Validity: 1, Next: 1})
	p.tells("bob", status("INBOX"), api.Status{ID: 2, Validity: 2, Next: 1})
	p.wants("ann", api.OK, create("b/c"))
	p.tells("ann", status("b"), api.Status{ID: 3, Validity: 3, Next: 1})
	p.tells("ann", status("b/c"), api.Status{ID: 4, Validity: 4, Next: 1})
	p.adds("eve", "", 0)
	p.tells("eve", status("INBOX"), api.Status{ID: 5, Validity: 5, Next: 1})
}

// absent are names of users that there are not, some of which look like parts of keys.
var absent = []string{none, "", "an", "annn", "Ann", "ann/", "ann/INBOX", "/", "\x00", "\xff", "ann ", times(1 << 16)}

// Of a user that there is not each call answers ErrNone, ahead of all other errors.
func TestAbsentUsers(t *testing.T) {
	p := newPlay(t)
	p.wants("ann", api.OK, appendTo("INBOX", of("x")), create("a"), subscribe("a", true))
	calls := append(each(),
		create(""), create("INBOX"), remove("INBOX"), remove(""), rename("a", ""), rename("INBOX", "INBOX"),
		subscribe("", true), subscribe("*", false), status(""), mails(0), text(0, 0),
		appendTo("INBOX", sized(make([]int, 11)...)...), appendTo("INBOX", of(times(50001))), appendTo("INBOX", of(times(2000))),
		appendTo("INBOX"), copyTo(1, ""), moveTo(1, ""), store(1, 9, nil), expunge(1, false))
	for _, user := range absent {
		for _, c := range calls {
			wanted := api.ErrNone
			if strings.HasPrefix(c.what, "List") || strings.HasPrefix(c.what, "Lsub") {
				wanted = api.OK
			}
			want(t, what(user, c.what), p.try(user, c), wanted)
		}
		p.tells(user, list("", "*"), []api.Listed(nil))
		p.tells(user, list("", ""), []api.Listed(nil))
		p.tells(user, lsub("", "*"), []string(nil))
	}
}

// None of a user's is another one's.
func TestOthersMailboxes(t *testing.T) {
	p := newPlay(t)
	p.wants("ann", api.OK, create("a"), appendTo("a", of("x")), subscribe("a", true))
	p.wants("bob", api.ErrNone,
		status("a"), mails(1), mails(3), text(3, 1), appendTo("a", of("x")), copyTo(3, "INBOX", 1), copyTo(2, "a", 1),
		moveTo(3, "INBOX", 1), moveTo(2, "a"), store(3, 0, nil, 1), expunge(3, true), remove("a"), rename("a", "b"))
	p.tells("bob", list("", "*"), []api.Listed{{Name: "INBOX"}})
	p.tells("bob", lsub("", "*"), []string(nil))
	p.wants("bob", api.OK, create("a"), appendTo("a", of("y")), remove("a"))
	p.tells("ann", text(3, 1), "x")
	p.same()
}

func TestWithoutTransaction(t *testing.T) {
	if mail.At(nil, "ann") != nil {
		t.Fatal("At tells an account without a transaction")
	}
	none := []struct {
		what string
		x    *txn.Tx
	}{{"nil", nil}, {"one that no call made", &txn.Tx{}}}
	for _, c := range none {
		want(t, "AddUser of "+c.what, mail.AddUser(c.x, "ann", "p", 5), api.ErrNil)
		want(t, "AddUser of "+c.what, mail.AddUser(c.x, "", "p", -1), api.ErrNil)
		want(t, "Login of "+c.what, mail.Login(c.x, "ann", "p"), api.ErrNil)
		want(t, "Check of "+c.what, mail.Check(c.x), api.ErrNil)
	}
	for _, a := range []*mail.Account{nil, {}, mail.At(&txn.Tx{}, "ann")} {
		wantRefused(t, a, api.ErrNil)
	}
}

// wantRefused: each call is refused so, whatever it is given, and tells nothing.
func wantRefused(t *testing.T, a *mail.Account, wanted api.Errno) {
	t.Helper()
	more := []call{create(""), create("INBOX"), remove("INBOX"), rename("", ""), subscribe("", true), list("", ""), lsub("", ""),
		status(""), mails(-1), text(0, 0), appendTo("", sized(make([]int, 11)...)...), copyTo(0, ""), moveTo(0, ""), store(0, 7, nil), expunge(0, false)}
	for _, c := range append(each(), more...) {
		e, got := c.do(a)
		want(t, c.what, e, wanted)
		for _, v := range got {
			if !isZero(v) {
				t.Fatalf("%s is %v, and beside it %s", c.what, e, tell(v))
			}
		}
	}
}

func TestClosedTransactions(t *testing.T) {
	p := newPlay(t)
	committed, back := p.s.Begin(), p.s.Begin()
	want(t, "Commit", committed.Commit(), api.OK)
	back.Rollback()
	for _, x := range []*txn.Tx{committed, back} {
		want(t, "AddUser", mail.AddUser(x, "eve", "p", 5), api.ErrState)
		want(t, "AddUser", mail.AddUser(x, "", "p", 5), api.ErrState)
		want(t, "AddUser", mail.AddUser(x, "ann", times(41), -5), api.ErrState)
		want(t, "Login", mail.Login(x, "ann", "p"), api.ErrState)
		want(t, "Login", mail.Login(x, none, "p"), api.ErrState)
		want(t, "Check", mail.Check(x), api.ErrState)
		for _, user := range []string{"ann", none, ""} {
			a := mail.At(x, user)
			if a == nil {
				t.Fatal("At tells no account of a transaction that is ended")
			}
			wantRefused(t, a, api.ErrState)
		}
	}
	p.same()
}

// An account that was told ahead of the end is of no use behind it.
func TestAccountsEndWithTheirTransaction(t *testing.T) {
	p := newPlay(t)
	x := p.s.Begin()
	a := mail.At(x, "ann")
	want(t, "Create", a.Create("a"), api.OK)
	want(t, "Commit", x.Commit(), api.OK)
	wantRefused(t, a, api.ErrState)
	want(t, "Create", p.slow.at("ann").Create("a"), api.OK)
	p.same()
}

// Without power nothing can be read: that is told first.
func TestWithoutPower(t *testing.T) {
	p := newPlay(t)
	x := p.s.Begin()
	p.d.Fuse(0)
	want(t, "Flush", p.d.Flush(), api.ErrPower)
	want(t, "AddUser", mail.AddUser(x, "eve", "p", 5), api.ErrPower)
	want(t, "AddUser", mail.AddUser(x, "", "p", 5), api.ErrPower)
	want(t, "AddUser", mail.AddUser(x, "ann", "p", -5), api.ErrPower)
	want(t, "Login", mail.Login(x, "ann", "q"), api.ErrPower)
	want(t, "Check", mail.Check(x), api.ErrPower)
	for _, user := range []string{"ann", none, ""} {
		wantRefused(t, mail.At(x, user), api.ErrPower)
	}
	p.anew()
	p.same()
}
