package mail

import (
	"slices"

	"haversack/api"
	"haversack/date"
	"haversack/search"
)

// Append puts messages into a mailbox.
func (a *Account) Append(name string, now api.Date, l ...api.Letter) ([]int, api.Errno) {
	if e := a.ready(); e != api.OK {
		return nil, e
	}
	b, e := a.named(name)
	if e != api.OK {
		return nil, e
	}
	if e := a.mayAppend(b, l); e != api.OK {
		return nil, e
	}
	fresh, e := a.fresh(now, l)
	if e != api.OK {
		return nil, e
	}
	uids, e := a.come(&b, fresh)
	if e := first(e, a.hold(fresh, 1), a.spend(sizeOf(fresh))); e != api.OK {
		return nil, e
	}
	return uids, api.OK
}

// mayAppend tells why letters can't come into a mailbox.
func (a *Account) mayAppend(b box, l []api.Letter) api.Errno {
	if len(l) > api.MaxAppend {
		return api.ErrMany
	}
	if e := mayHold(b, len(l)); e != api.OK {
		return e
	}
	size := 0
	for _, one := range l {
		if len(one.Text) > api.MaxLiteral {
			return api.ErrLong
		}
		size += len(one.Text)
	}
	return a.mayUse(size)
}

// mayHold tells why a mailbox can't have so many messages more.
func mayHold(b box, more int) api.Errno {
	if b.Messages+more > api.MaxMails {
		return api.ErrMany
	}
	return api.OK
}

// mayUse tells why a user can't use so many bytes more.
func (a *Account) mayUse(more int) api.Errno {
	use, limit, e := a.Quota()
	if e == api.OK && use+more > limit {
		return api.ErrQuota
	}
	return e
}

// fresh are letters as messages; their texts are kept.
func (a *Account) fresh(now api.Date, l []api.Letter) ([]letter, api.Errno) {
	var all []letter
	for _, one := range l {
		text, e := next(a.Tx, texts)
		if e := first(e, a.Put(textKey(text), one.Text)); e != api.OK {
			return nil, e
		}
		all = append(all, letter{api.Mail{
			Flags: search.Flags(one.Flags...),
			Date:  dateOf(one, now),
			Size:  len(one.Text),
			ID:    text,
		}})
	}
	return all, api.OK
}

// dateOf is a letter's date, if it has one that is right.
func dateOf(l api.Letter, now api.Date) api.Date {
	if i := slices.IndexFunc(l.Date, date.Right); i >= 0 {
		return l.Date[i]
	}
	return now
}

// Copy copies messages.
func (a *Account) Copy(id int, to string, uids ...int) ([]int, []int, api.Errno) {
	_, into, l, e := a.chosen(id, to, uids)
	if e != api.OK {
		return nil, nil, e
	}
	if e := first(mayHold(into, len(l)), a.mayUse(sizeOf(l))); e != api.OK {
		return nil, nil, e
	}
	fresh, e := a.come(&into, l)
	if e := first(e, a.hold(l, 1), a.spend(sizeOf(l))); e != api.OK {
		return nil, nil, e
	}
	return uidsOf(l), fresh, api.OK
}

// Move moves messages.
func (a *Account) Move(id int, to string, uids ...int) ([]int, []int, api.Errno) {
	from, into, l, e := a.chosen(id, to, uids)
	if e != api.OK {
		return nil, nil, e
	}
	source := &from
	if from.ID == into.ID {
		source = &into
	} else if e := mayHold(into, len(l)); e != api.OK {
		return nil, nil, e
	}
	if e := a.leave(source, l); e != api.OK {
		return nil, nil, e
	}
	fresh, e := a.come(&into, l)
	if e != api.OK {
		return nil, nil, e
	}
	return uidsOf(l), fresh, api.OK
}

// chosen are a mailbox, another one (perhaps the same), and messages of the first.
func (a *Account) chosen(id int, to string, uids []int) (box, box, []letter, api.Errno) {
	from, e := a.numbered(id)
	if e != api.OK {
		return box{}, box{}, nil, e
	}
	into, e := a.named(to)
	if e != api.OK {
		return box{}, box{}, nil, e
	}
	l, e := a.among(id, uids)
	return from, into, l, e
}
