package seqset

import (
	"cmp"
	"slices"

	"haversack/api"
)

// reach is the numbers from 1 on that a span covers, From being the smallest; false, if there are none.
func reach(s api.Span, most int) (api.Span, bool) {
	if most < 1 && (s.From == 0 || s.To == 0) {
		return api.Span{}, false
	}
	from, to := known(s.From, most), known(s.To, most)
	covered := api.Span{From: max(1, min(from, to)), To: max(from, to)}
	return covered, covered.From <= covered.To
}

// known is an end of a span as a number.
func known(n, most int) int {
	if n == 0 {
		return most
	}
	return n
}

// reaches are those of some spans, in their order.
func reaches(l []api.Span, most int) []api.Span {
	var all []api.Span
	for _, s := range l {
		if covered, is := reach(s, most); is {
			all = append(all, covered)
		}
	}
	return all
}

// joined is reaches in rising order, two being one where no number lies between. It sorts the list itself, which must be nobody else's.
func joined(l []api.Span) []api.Span {
	slices.SortFunc(l, func(a, b api.Span) int { return cmp.Compare(a.From, b.From) })
	var rising []api.Span
	for _, s := range l {
		last := len(rising) - 1
		if last >= 0 && s.From-1 <= rising[last].To {
			rising[last].To = max(rising[last].To, s.To)
		} else {
			rising = append(rising, s)
		}
	}
	return rising
}

// within tells whether one of joined reaches has a number.
func within(l []api.Span, n int) bool {
	at, _ := slices.BinarySearchFunc(l, n, func(s api.Span, n int) int { return cmp.Compare(s.To, n) })
	return at < len(l) && l[at].From <= n
}
