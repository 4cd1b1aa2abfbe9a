package mail

import (
	"slices"
	"strings"

	"haversack/api"
	"haversack/search"
	"haversack/txn"
)

// letter is a message, as it is kept beside its text.
type letter struct{ api.Mail }

// kept is its numbers, but that which its key tells.
func (l *letter) kept() []*int {
	d := &l.Date
	return []*int{&l.ID, &l.Size, &d.Year, &d.Month, &d.Day, &d.Hour, &d.Min, &d.Sec, &d.Zone}
}

// record is what is kept of it; no blank can stand in a flag.
func (l *letter) record() string {
	return numbers(l.kept()...).tell(strings.Join(l.Flags, blank))
}

// letterOf is the message that a record tells; false, if record tells none so.
func letterOf(record string) (letter, bool) {
	var l letter
	flags, ok := numbers(l.kept()...).read(record)
	if flags != "" {
		l.Flags = strings.Split(flags, blank)
	}
	return l, ok && slices.Equal(l.Flags, search.Flags(l.Flags...))
}

// letters are the messages of a mailbox, by UID.
func (a *Account) letters(id int) ([]letter, api.Errno) {
	kept, e := pairs(a.Tx, mailsKey(id))
	if e != api.OK {
		return nil, e
	}
	l := make([]letter, len(kept))
	for i, p := range kept {
		uid, isUID := unnum(p.Key)
		one, isLetter := letterOf(p.Value)
		if !isUID || !isLetter {
			return nil, api.ErrBroken
		}
		one.UID = uid
		l[i] = one
	}
	return l, api.OK
}

// among are those messages of a mailbox whose UIDs stand among some, by UID.
func (a *Account) among(id int, uids []int) ([]letter, api.Errno) {
	l, e := a.letters(id)
	if e != api.OK {
		return nil, e
	}
	wanted := slices.Sorted(slices.Values(uids))
	return slices.DeleteFunc(l, func(one letter) bool {
		_, is := slices.BinarySearch(wanted, one.UID)
		return !is
	}), api.OK
}

// uidsOf are those of some messages.
func uidsOf(l []letter) []int {
	uids := make([]int, len(l))
	for i, one := range l {
		uids[i] = one.UID
	}
	return uids
}

// sizeOf is how many bytes some messages have.
func sizeOf(l []letter) int {
	sum := 0
	for _, one := range l {
		sum += one.Size
	}
	return sum
}

// put keeps a message of a mailbox.
func (a *Account) put(b box, l letter) api.Errno {
	return set(a.Tx, mailKey(b.ID, l.UID), l.record())
}

// come lays messages into a mailbox, where they have the next UIDs.
func (a *Account) come(b *box, l []letter) ([]int, api.Errno) {
	uids := make([]int, len(l))
	for i, one := range l {
		one.UID = b.Next
		b.Next++
		b.count(one, 1)
		if e := a.put(*b, one); e != api.OK {
			return nil, e
		}
		uids[i] = one.UID
	}
	return uids, a.save(*b)
}

// leave takes messages out of a mailbox.
func (a *Account) leave(b *box, l []letter) api.Errno {
	for _, one := range l {
		b.count(one, -1)
		if e := a.Tx.Delete(mailKey(b.ID, one.UID)); e != api.OK {
			return e
		}
	}
	return a.save(*b)
}

// drop takes messages out of a mailbox, which are then nowhere else by that.
func (a *Account) drop(b box, l []letter) api.Errno {
	return first(a.leave(&b, l), a.hold(l, -1), a.spend(-sizeOf(l)))
}

// hold counts one message more (by 1) or fewer (by -1) for the text of each of some. A text that no message holds is kept no longer.
func (a *Account) hold(l []letter, by int) api.Errno {
	for _, one := range l {
		if e := a.holdText(one.ID, by); e != api.OK {
			return e
		}
	}
	return api.OK
}

func (a *Account) holdText(text, by int) api.Errno {
	count := 0
	if _, e := readNumbers(a.Tx, heldKey(text), &count); e != api.OK {
		return e
	}
	count += by
	if count > 0 {
		return setNumber(a.Tx, heldKey(text), count)
	}
	return a.Tx.Delete(heldKey(text), textKey(text))
}

// textOf is the text with a number.
func textOf(t *txn.Tx, n int) (string, api.Errno) {
	text, is, e := t.Get(textKey(n))
	if e == api.OK && !is {
		return "", api.ErrBroken
	}
	return text, e
}
