package mail_test

import (
	"fmt"
	"slices"
	"strconv"
	"strings"
	"testing"

	"haversack/api"
	"haversack/disk"
	"haversack/mail"
	"haversack/txn"
)

// P17.7: Check. These tests know what is kept: see keys.go.

// kept is a store with something of each kind, of which nothing was taken away, and its pairs.
func kept(t *testing.T) (*play, []api.Pair) {
	t.Helper()
	p := newPlay(t)
	p.wants("ann", api.OK,
		create("a/b"), subscribe("a", true), subscribe("INBOX", true), subscribe("none/x", true),
		appendTo("INBOX", of("1", `\Seen`, "x"), of("", `\Deleted`), of(times(200), `\Seen`, `\Deleted`)),
		appendTo("a/b", of("22")), copyTo(1, "a/b", 1, 3), copyTo(4, "a", 1), store(1, 1, flags("y"), 2))
	p.wants("bob", api.OK, appendTo("INBOX", of("y")))
	p.same()
	l, e := p.s.Pairs()
	want(t, "Pairs", e, api.OK)
	return p, l
}

// wantCheck: with these pairs laid over a store, and keys taken away, Check answers so. It answers the transaction, in which that is so.
func wantCheck(t *testing.T, why string, p *play, wanted api.Errno, lay []api.Pair, away ...string) *txn.Tx {
	t.Helper()
	x := p.s.Begin()
	for _, pair := range lay {
		want(t, "Put", x.Put(pair.Key, pair.Value), api.OK)
	}
	want(t, "Delete", x.Delete(away...), api.OK)
	want(t, why+": Check", mail.Check(x), wanted)
	return x
}

// wantChecked: likewise, and no call panics, or tells something beside an error.
func wantChecked(t *testing.T, why string, p *play, wanted api.Errno, lay []api.Pair, away ...string) {
	t.Helper()
	x := wantCheck(t, why, p, wanted, lay, away...)
	defer x.Rollback()
	calls := each()
	for id := range 7 {
		calls = append(calls, mails(id), text(id, id), copyTo(id, "a", 1, 2), moveTo(id, "a/b", 1, 2))
	}
	for _, c := range calls {
		if e, got := c.do(mail.At(x, "ann")); e != api.OK && slices.ContainsFunc(got, func(v any) bool { return !isZero(v) }) {
			t.Fatalf("%s: %s is %v, and beside it %s", why, c.what, e, tell(got))
		}
	}
	mail.Login(x, "ann", "p")
	mail.AddUser(x, "ann", "p", 5)
	mail.AddUser(x, "eve", "p", 5)
	mail.Check(x)
}

// What can't be read, or is missed, is told as what is broken.
func TestSpoiled(t *testing.T) {
	p, _ := kept(t)
	for _, c := range []struct {
		key   string
		calls []call
	}{
		{"qann", []call{quota(), appendTo("a", of("x")), copyTo(1, "a", 1), expunge(1, true), remove("a/b")}},
		{"bann/a3", []call{status("a"), appendTo("a", of("x")), copyTo(1, "a", 1), moveTo(1, "a", 1), remove("a")}},
		{"ta1", []call{text(1, 1), text(4, 2)}},
	} {
		for _, do := range c.calls {
			x := p.s.Begin()
			want(t, "Delete", x.Delete(c.key), api.OK)
			e, _ := do.do(mail.At(x, "ann"))
			want(t, "without "+c.key+": "+do.what, e, api.ErrBroken)
			x.Rollback()
		}
	}
	for _, c := range []struct {
		key   string
		calls []call
	}{
		{"qann", []call{quota(), appendTo("a", of("x")), copyTo(1, "a", 1), expunge(1, true)}},
		{"uann", []call{quota(), appendTo("a", of("x"))}},
		{"bann/a1", []call{status("INBOX"), mails(1), text(1, 1), appendTo("INBOX", of("x")), copyTo(1, "a", 1), copyTo(3, "INBOX", 1), moveTo(1, "a", 1), store(1, 0, nil, 1), expunge(1, true)}},
		{"nann/INBOX", []call{status("INBOX"), create("INBOX"), rename("INBOX", "x"), rename("a", "INBOX"), create("INBOX/x"), appendTo("INBOX", of("x")), copyTo(3, "INBOX", 1)}},
		{"ma1a1", []call{mails(1), text(1, 1), copyTo(1, "a", 2), moveTo(1, "a", 2), store(1, 0, nil, 2), expunge(1, false, 2)}},
		{"ha1", []call{copyTo(1, "a", 1), remove("a/b")}},
		{"cbox", []call{create("z"), rename("a", "y/z"), rename("INBOX", "z")}},
		{"cvalidity", []call{create("z"), rename("a", "y/z"), rename("INBOX", "z")}},
		{"ctext", []call{appendTo("INBOX", of("x"))}},
	} {
		for _, do := range c.calls {
			x := p.s.Begin()
			want(t, "Put", x.Put(c.key, "x"), api.OK)
			e, _ := do.do(mail.At(x, "ann"))
			want(t, c.key+" is spoiled: "+do.what, e, api.ErrBroken)
			x.Rollback()
		}
	}
	for _, key := range []string{"uann", "cbox", "cvalidity"} {
		x := p.s.Begin()
		want(t, "Put", x.Put(key, "x"), api.OK)
		if key == "uann" {
			want(t, "Login", mail.Login(x, "ann", "x"), api.ErrBroken)
		} else {
			want(t, "AddUser", mail.AddUser(x, "eve", "", 0), api.ErrBroken)
		}
		x.Rollback()
	}
}

func TestCheckOfWhatIsNot(t *testing.T) {
	d, _ := disk.New(50)
	want(t, "Format", txn.Format(d), api.OK)
	s := opened(t, d)
	want(t, "Check of an empty store", mail.Check(s.Begin()), api.OK)
	want(t, "Check of nil", mail.Check(nil), api.ErrNil)
	want(t, "Check of none", mail.Check(&txn.Tx{}), api.ErrNil)
}

// Each pair alone is missed, but for a subscription, which stands for itself.
func TestCheckOfPairsTakenAway(t *testing.T) {
	p, l := kept(t)
	for _, pair := range l {
		wanted := api.ErrBroken
		if pair.Key[0] == 's' {
			wanted = api.OK
		}
		wantChecked(t, fmt.Sprintf("without %q", pair.Key), p, wanted, nil, pair.Key)
	}
}

// Any two that are taken away are missed, too.
func TestCheckOfTwoPairsTakenAway(t *testing.T) {
	p, l := kept(t)
	for i, a := range l {
		for _, b := range l[:i] {
			wanted := api.ErrBroken
			if a.Key[0] == 's' && b.Key[0] == 's' {
				wanted = api.OK
			}
			x := p.s.Begin()
			want(t, "Delete", x.Delete(a.Key, b.Key), api.OK)
			want(t, fmt.Sprintf("without %q, %q: Check", a.Key, b.Key), mail.Check(x), wanted)
			x.Rollback()
		}
	}
}

// Pairs that stand beside the others.
func TestCheckOfPairsPutThere(t *testing.T) {
	t.Parallel()
	p, l := kept(t)
	for _, pair := range l {
		for _, key := range []string{pair.Key + "\x00", pair.Key + "0", pair.Key + "/", pair.Key + "\xff", "\x00" + pair.Key, pair.Key[:1], pair.Key[:len(pair.Key)-1]} {
			for _, value := range []string{pair.Value, "", "1 ", "x"} {
				if hasKey(l, key) || mayStand(key, value) {
					continue
				}
				wantCheck(t, fmt.Sprintf("with %q: %q", key, value), p, api.ErrBroken, []api.Pair{{Key: key, Value: value}}).Rollback()
			}
		}
	}
	for b := range 256 {
		for _, key := range []string{"", string([]byte{byte(b)}), string([]byte{byte(b)}) + "ann", string([]byte{byte(b)}) + "ann/a1", string([]byte{byte(b)}) + "a1"} {
			for _, value := range []string{"", "1 ", "x"} {
				if !hasKey(l, key) && !mayStand(key, value) {
					wantCheck(t, fmt.Sprintf("with %q: %q", key, value), p, api.ErrBroken, []api.Pair{{Key: key, Value: value}}).Rollback()
				}
			}
		}
	}
}

// mayStand tells whether a pair is one more subscription, as Subscribe would keep it.
func mayStand(key, value string) bool {
	name, is := strings.CutPrefix(key, "sann/")
	return is && value == "" && name != "" && !strings.ContainsAny(name, "\x00\xff") && !strings.HasSuffix(name, "/")
}

func hasKey(l []api.Pair, key string) bool {
	for _, p := range l {
		if p.Key == key {
			return true
		}
	}
	return false
}

// fields is how many numbers a record has, by its kind.
var fields = map[byte]int{'b': 6, 'c': 1, 'h': 1, 'm': 9, 'n': 1, 'q': 1, 'u': 1}

// loose tells whether a number of a record may be another one, as far as what is kept twice goes: a limit, a date, and a count or the next UID, if it is more.
func loose(kind byte, at, by int) bool {
	switch kind {
	case 'u':
		return true
	case 'm':
		return at >= 2
	case 'c':
		return by > 0
	case 'b':
		return at == 1 && by > 0
	}
	return false
}

func TestCheckOfNumbersChanged(t *testing.T) {
	t.Parallel()
	p, l := kept(t)
	for _, pair := range l {
		count, is := fields[pair.Key[0]]
		if !is {
			continue
		}
		words := strings.SplitN(pair.Value, " ", count+1)
		for at := range count {
			was := words[at]
			n, err := strconv.Atoi(was)
			if err != nil {
				t.Fatalf("%q has %q", pair.Key, pair.Value)
			}
			for _, by := range []int{-1 << 40, -n - 1, -n, -1, 1, 2, 10, 1 << 40} {
				if by == 0 {
					continue
				}
				words[at] = strconv.Itoa(n + by)
				wanted := api.ErrBroken
				if loose(pair.Key[0], at, by) && (pair.Key[0] != 'u' || n+by >= 0) {
					wanted = api.OK
				}
				value := strings.Join(words, " ")
				wantCheck(t, fmt.Sprintf("%q is %q", pair.Key, value), p, wanted, []api.Pair{{Key: pair.Key, Value: value}}).Rollback()
			}
			for _, word := range []string{"", "0" + was, "+" + was, " " + was, was + ".", "x", "-0", "99999999999999999999", "1e1", "\x00"} {
				words[at] = word
				value := strings.Join(words, " ")
				wantChecked(t, fmt.Sprintf("%q is %q", pair.Key, value), p, api.ErrBroken, []api.Pair{{Key: pair.Key, Value: value}})
			}
			words[at] = was
		}
	}
}

// What stands behind the numbers, and what is no record.
func TestCheckOfTextsChanged(t *testing.T) {
	t.Parallel()
	p, l := kept(t)
	for _, pair := range l {
		broken := []string{pair.Value + "x", pair.Value + " ", "x" + pair.Value, "x", "1 2 3 4 5 6 7 8 9 10 11 12 "}
		switch pair.Key[0] {
		case 'u':
			broken = []string{"", "1", "x 1 ", pair.Value + times(41)}
		case 't':
			broken = []string{pair.Value + "x", pair.Value + " ", times(len(pair.Value) + 2), times(50000)}
		case 'm':
			numbers := strings.Join(strings.SplitN(pair.Value, " ", 10)[:9], " ") + " "
			broken = append(broken[1:], "", numbers+`\Seen \Seen`, numbers+`b a`, numbers+`\SEEN`, numbers+`\x`, numbers+" ", numbers+"1", numbers+times(31), numbers[:len(numbers)-1])
			if strings.Contains(pair.Value, `\Seen`) {
				broken = append(broken, numbers, numbers+`\Deleted`)
			} else {
				broken = append(broken, numbers+`\Seen`, numbers+`\Deleted \Seen`)
			}
		}
		for _, value := range broken {
			if value != pair.Value {
				wantChecked(t, fmt.Sprintf("%q is %q", pair.Key, value), p, api.ErrBroken, []api.Pair{{Key: pair.Key, Value: value}})
			}
		}
	}
	for _, c := range []api.Pair{{Key: "uann", Value: "1000 "}, {Key: "uann", Value: "5 other"}, {Key: "uann", Value: "0 1 2"}, {Key: "ta1", Value: "2"}} {
		wantChecked(t, fmt.Sprintf("%q is %q", c.Key, c.Value), p, api.OK, []api.Pair{c})
	}
}

// Several pairs that go together each by itself, but not all of them.
func TestCheckOfSeveral(t *testing.T) {
	p, l := kept(t)
	value := func(key string) string {
		for _, p := range l {
			if p.Key == key {
				return p.Value
			}
		}
		t.Fatalf("there is no %q among %q", key, l)
		return ""
	}
	box := value("bann/a3")
	// more is a record one of whose numbers is one more.
	more := func(key string, at int) api.Pair {
		words := strings.Split(value(key), " ")
		n, _ := strconv.Atoi(words[at])
		words[at] = strconv.Itoa(n + 1)
		return api.Pair{Key: key, Value: strings.Join(words, " ")}
	}
	for _, c := range []struct {
		why    string
		wanted api.Errno
		lay    []api.Pair
		away   []string
	}{
		{"a name more of a mailbox", api.ErrBroken, []api.Pair{{Key: "nann/b", Value: "3 "}}, nil},
		{"another name of a mailbox", api.OK, []api.Pair{{Key: "nann/c", Value: "4 "}}, []string{"nann/a/b"}},
		{"a name under none", api.ErrBroken, []api.Pair{{Key: "nann/c/d", Value: "4 "}}, []string{"nann/a/b"}},
		{"a name that may not be", api.ErrBroken, []api.Pair{{Key: "nann/c*", Value: "4 "}}, []string{"nann/a/b"}},
		{"an empty name", api.ErrBroken, []api.Pair{{Key: "nann/", Value: "4 "}}, []string{"nann/a/b"}},
		{"a name that is INBOX", api.ErrBroken, []api.Pair{{Key: "nann/inbox", Value: "4 "}}, []string{"nann/a/b"}},
		{"a name under what is INBOX", api.ErrBroken, []api.Pair{{Key: "nann/inbox/a", Value: "4 "}}, []string{"nann/a/b"}},
		{"another name of INBOX", api.ErrBroken, []api.Pair{{Key: "nann/x", Value: "1 "}}, []string{"nann/INBOX"}},
		{"a mailbox of another user", api.ErrBroken, []api.Pair{{Key: "bbob/a4", Value: value("bann/a4")}}, []string{"bann/a4"}},
		{"another number of a mailbox", api.ErrBroken, []api.Pair{{Key: "nann/a", Value: "9 "}, {Key: "bann/a9", Value: "3 1 0 0 0 0 "}}, []string{"bann/a3"}},
		{"two mailboxes with one validity", api.ErrBroken, []api.Pair{{Key: "bann/a4", Value: "3" + value("bann/a4")[1:]}}, nil},
		{"two that are changed", api.OK, []api.Pair{{Key: "bann/a4", Value: "3" + value("bann/a4")[1:]}, {Key: "bann/a3", Value: "4" + box[1:]}}, nil},
		{"a message more, that is counted", api.ErrBroken, []api.Pair{{Key: "mb10a1", Value: "4 2 1 1 1 0 0 0 0 "}}, nil},
		{"a text that nobody holds", api.ErrBroken, []api.Pair{{Key: "cext", Value: ""}, {Key: "ta6", Value: "x"}, {Key: "ha6", Value: "0 "}}, nil},
		{"a text that nobody holds", api.ErrBroken, []api.Pair{{Key: "ctext", Value: "6 "}, {Key: "ta6", Value: "x"}, {Key: "ha6", Value: "1 "}}, nil},
		{"a text that nobody holds", api.ErrBroken, []api.Pair{{Key: "ctext", Value: "6 "}, {Key: "ta6", Value: "x"}}, nil},
		{"a user without mailboxes", api.ErrBroken, []api.Pair{{Key: "ueve", Value: "5 p"}}, nil},
		{"a user without mailboxes", api.ErrBroken, []api.Pair{{Key: "ueve", Value: "5 p"}, {Key: "qeve", Value: "0 "}}, nil},
		{"a user more", api.OK, []api.Pair{{Key: "ueve", Value: "5 p"}, {Key: "qeve", Value: "0 "}, {Key: "neve/INBOX", Value: "9 "}, {Key: "beve/a9", Value: "9 1 0 0 0 0 "}, {Key: "cbox", Value: "9 "}, {Key: "cvalidity", Value: "9 "}}, nil},
		{"a user more, with a name that may not be", api.ErrBroken, []api.Pair{{Key: "ueve ", Value: "5 p"}, {Key: "qeve ", Value: "0 "}, {Key: "neve /INBOX", Value: "9 "}, {Key: "beve /a9", Value: "9 1 0 0 0 0 "}, {Key: "cbox", Value: "9 "}, {Key: "cvalidity", Value: "9 "}}, nil},
		{"a next UID of none", api.ErrBroken, []api.Pair{{Key: "ueve", Value: "5 p"}, {Key: "qeve", Value: "0 "}, {Key: "neve/INBOX", Value: "9 "}, {Key: "beve/a9", Value: "9 0 0 0 0 0 "}, {Key: "cbox", Value: "9 "}, {Key: "cvalidity", Value: "9 "}}, nil},
		{"a message that says another size than its text has", api.ErrBroken, []api.Pair{more("ma3a1", 1), more("bann/a3", 5), more("qann", 0)}, nil},
		{"one of two that hold a text, likewise", api.ErrBroken, []api.Pair{more("ma1a1", 1), more("bann/a1", 5), more("qann", 0)}, nil},
		{"the other one of these", api.ErrBroken, []api.Pair{more("ma4a2", 1), more("bann/a4", 5), more("qann", 0)}, nil},
		{"a subscription more", api.OK, []api.Pair{{Key: "sbob/x"}}, nil},
		{"a subscription to INBOX as it is not kept", api.ErrBroken, []api.Pair{{Key: "sann/inbox/x"}}, nil},
		{"a subscription to what may not be", api.ErrBroken, []api.Pair{{Key: "sann/x/"}}, nil},
		{"a subscription with a value", api.ErrBroken, []api.Pair{{Key: "sann/x", Value: "1"}}, nil},
		{"a subscription of nobody", api.ErrBroken, []api.Pair{{Key: "seve/x"}}, nil},
		{"all but a count", api.ErrBroken, []api.Pair{{Key: "cmore", Value: "1 "}}, nil},
	} {
		wantChecked(t, c.why, p, c.wanted, c.lay, c.away...)
	}
}

// A UID's key tells it in one way alone.
func TestCheckOfKeysOfMessages(t *testing.T) {
	p, l := kept(t)
	for _, pair := range l {
		if pair.Key[0] != 'm' {
			continue
		}
		stem := pair.Key[:len(pair.Key)-2]
		for _, rest := range []string{"", "a", "a0", "b01", "b-1", "a-", "c001", "1", "a11", "A1", "b1", "z1", "\x00"} {
			wantChecked(t, fmt.Sprintf("%q as %q", pair.Key, stem+rest), p, api.ErrBroken, []api.Pair{{Key: stem + rest, Value: pair.Value}}, pair.Key)
		}
	}
}

// What the disk has spoiled is told ahead.
func TestCheckOfABrokenDisk(t *testing.T) {
	t.Parallel()
	p, _ := kept(t)
	for n := 2; n < p.d.Size(); n++ {
		d := p.d.Copy()
		s := opened(t, d)
		x := s.Begin()
		want(t, "Write", d.Write(n, make([]byte, api.Sector)), api.OK)
		e := mail.Check(x)
		if _, whole := x.Range("", "", api.MaxPairs); whole != e {
			t.Fatalf("Check = %v; the transaction's error is %v", e, whole)
		}
		for _, c := range each() {
			c.do(mail.At(x, "ann"))
		}
	}
}
