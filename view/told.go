package view

import (
	"slices"

	"haversack/api"
)

// expunge lets the places be gone whose messages are not there any more. The last one is told first, so that no place that is still to be told has moved.
func (v *View) expunge(there map[int]message) []api.Told {
	gone := func(m message) bool {
		_, is := there[m.uid]
		return !is
	}
	var told []api.Told
	for i, m := range slices.Backward(v.places) {
		if gone(m) {
			told = append(told, api.Told{Kind: api.ToldExpunge, N: i + 1})
		}
	}
	v.places = slices.DeleteFunc(v.places, gone)
	return told
}

// come lets those messages come that are above all that ever were, and tells whether there are any.
func (v *View) come(box []message) bool {
	ahead := v.count()
	for _, m := range box {
		if m.uid > v.greatest {
			v.greatest = m.uid
			v.places = append(v.places, m)
		}
	}
	return v.count() > ahead
}

// flag is of each place the flags that its message has by now, if others were told.
func (v *View) flag(there map[int]message) []api.Told {
	var told []api.Told
	for i, m := range v.places {
		now, is := there[m.uid]
		if is && !slices.Equal(now.flags, m.flags) {
			v.places[i] = now
			told = append(told, api.Told{Kind: api.ToldFlags, N: i + 1, Flags: slices.Clone(now.flags)})
		}
	}
	return told
}
