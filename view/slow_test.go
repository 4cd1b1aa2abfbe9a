package view_test

import (
	"maps"
	"slices"

	"haversack/api"
)

// slowView is a view that goes another way: its places stand in a map by their numbers, it keeps each UID that ever was, and of each message all lists of flags that were told, of which the last one counts.
type slowView struct {
	at    map[int]int
	flags map[int][][]string
	ever  []int
}

func newSlow(l []api.Mail) *slowView {
	s := &slowView{map[int]int{}, map[int][][]string{}, nil}
	for _, m := range slowMailbox(l) {
		s.puts(m)
	}
	return s
}

func (s *slowView) copy() *slowView {
	c := &slowView{maps.Clone(s.at), map[int][][]string{}, slices.Clone(s.ever)}
	for uid, l := range s.flags {
		c.flags[uid] = slices.Clone(l)
	}
	return c
}

// puts puts a message behind the last place.
func (s *slowView) puts(m api.Mail) {
	s.at[len(s.at)+1] = m.UID
	s.ever = append(s.ever, m.UID)
	s.note(m.UID, m.Flags)
}

// most is the greatest UID that it ever had.
func (s *slowView) most() int {
	most := 0
	for _, uid := range s.ever {
		most = max(most, uid)
	}
	return most
}

func (s *slowView) uids() []int {
	var l []int
	for n := 1; n <= len(s.at); n++ {
		l = append(l, s.at[n])
	}
	return l
}

func (s *slowView) note(uid int, flags []string) {
	for _, known := range s.at {
		if known == uid {
			s.flags[uid] = append(s.flags[uid], slowFlags(flags))
		}
	}
}

func (s *slowView) sync(quiet bool, now []api.Mail) []api.Told {
	var l []api.Told
	all := slowMailbox(now)
	for n := len(s.at); n >= 1; n-- {
		if _, is := slowFind(all, s.at[n]); !is && !quiet {
			l = append(l, gone(n))
			s.takes(n)
		}
	}
	most, count := s.most(), len(s.at)
	for _, m := range all {
		if m.UID > most {
			s.puts(m)
		}
	}
	if len(s.at) != count {
		l = append(l, exists(len(s.at)))
	}
	for n := 1; n <= len(s.at); n++ {
		uid := s.at[n]
		m, is := slowFind(all, uid)
		lists := s.flags[uid]
		if is && !slices.Equal(slowFlags(m.Flags), lists[len(lists)-1]) {
			l = append(l, flagged(n, slowFlags(m.Flags)...))
			s.note(uid, m.Flags)
		}
	}
	return l
}

// takes lets a place be gone.
func (s *slowView) takes(n int) {
	for ; n < len(s.at); n++ {
		s.at[n] = s.at[n+1]
	}
	delete(s.at, n)
}

func slowFind(l []api.Mail, uid int) (api.Mail, bool) {
	for _, m := range l {
		if m.UID == uid {
			return m, true
		}
	}
	return api.Mail{}, false
}

// slowMailbox holds each message against all that are ahead of it.
func slowMailbox(l []api.Mail) []api.Mail {
	var all []api.Mail
	for i, m := range l {
		ok := m.UID >= 1
		for _, ahead := range l[:i] {
			ok = ok && m.UID > ahead.UID
		}
		if ok {
			all = append(all, m)
		}
	}
	return all
}

// slowKept is those flags that tests make use of, as they are kept.
var slowKept = map[string]string{
	`\Seen`: `\Seen`, `\seen`: `\Seen`, `\SEEN`: `\Seen`, `\sEEN`: `\Seen`, `\deleted`: `\Deleted`, `\Deleted`: `\Deleted`, `\FLAGGED`: `\Flagged`,
	"A": "A", "!": "!", "~": "~", "1a": "1a",
	"a": "a", "b": "b", "c": "c", "d": "d", "e": "e", "f": "f", "g": "g", "h": "h", "i": "i", "j": "j", "k": "k", "l": "l", "m": "m",
	"n": "n", "o": "o", "p": "p", "q": "q", "r": "r", "s": "s", "t": "t", "u": "u", "v": "v", "w": "w", "x": "x", "y": "y", "z": "z",
}

// slowFlags puts each flag to its place.
func slowFlags(l []string) []string {
	var all []string
	for _, flag := range l {
		k := slowKept[flag]
		if at := slices.IndexFunc(all, func(other string) bool { return other >= k }); k == "" || at >= 0 && all[at] == k {
			continue
		} else if at >= 0 {
			all = slices.Insert(all, at, k)
		} else {
			all = append(all, k)
		}
	}
	return all[:min(len(all), 20)]
}

// slowFollow makes of what is told first what is known then, and goes on with the rest.
func slowFollow(uids, fresh []int, l []api.Told) ([]int, bool) {
	if len(l) == 0 {
		return uids, true
	}
	n := l[0].N
	switch there := n > 0 && n <= len(uids); {
	case l[0].Kind == api.ToldExpunge && there:
		var left []int
		for i, uid := range uids {
			if i+1 != n {
				left = append(left, uid)
			}
		}
		return slowFollow(left, fresh, l[1:])
	case l[0].Kind == api.ToldFlags && there, l[0].Kind == api.ToldExists && n == len(uids):
		return slowFollow(uids, fresh, l[1:])
	case l[0].Kind == api.ToldExists && n > len(uids) && len(fresh) > 0:
		if more, ok := slowFollow(slices.Concat(uids, fresh[:1]), fresh[1:], l); ok || n <= len(uids)+len(fresh) {
			return more, ok
		}
	}
	return uids, false
}
