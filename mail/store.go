package mail

import (
	"slices"

	"haversack/api"
	"haversack/search"
)

// Store changes flags.
func (a *Account) Store(id, mode int, flags []string, uids ...int) ([]int, api.Errno) {
	b, e := a.numbered(id)
	if e != api.OK {
		return nil, e
	}
	l, e := a.among(id, uids)
	if e != api.OK {
		return nil, e
	}
	for _, one := range l {
		b.count(one, -1)
		one.Flags = search.Change(one.Flags, mode, flags...)
		b.count(one, 1)
		if e := a.put(b, one); e != api.OK {
			return nil, e
		}
	}
	if e := a.save(b); e != api.OK {
		return nil, e
	}
	return uidsOf(l), api.OK
}

// Expunge takes away what is deleted.
func (a *Account) Expunge(id int, all bool, uids ...int) ([]int, api.Errno) {
	b, e := a.numbered(id)
	if e != api.OK {
		return nil, e
	}
	l, e := a.letters(id)
	if !all {
		l, e = a.among(id, uids)
	}
	if e != api.OK {
		return nil, e
	}
	l = slices.DeleteFunc(l, func(one letter) bool { return !search.Has(one.Flags, deleted) })
	if e := a.drop(b, l); e != api.OK {
		return nil, e
	}
	return uidsOf(l), api.OK
}
