package resp

import (
	"slices"

	"haversack/api"
)

// deepest is how many lists within one another are copied. Of a value that lies in itself there is no end of them.
const deepest = 1 << 17

// own is values with lists of their own; just the first list is, if they lie too deep in one another.
func own(l ...api.Val) []api.Val {
	if all, is := copies(0, l...); is {
		return all
	}
	return slices.Clone(l)
}

// copies is values that so many lists stand around, with all lists in them anew.
func copies(around int, l ...api.Val) ([]api.Val, bool) {
	if around > deepest {
		return nil, false
	}
	all := slices.Clone(l)
	for i := range all {
		kids, is := copies(around+1, all[i].Kids...)
		if !is {
			return nil, false
		}
		all[i].Kids, all[i].From = kids, ownNumbers(all[i].From...)
	}
	return all, true
}

func ownNumbers(l ...int) []int { return slices.Clone(l) }
