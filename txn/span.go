package txn

import (
	"slices"

	"haversack/api"
	"haversack/btree"
)

// span is the keys from one on, up to another one, which is not with them; an empty end is none.
type span struct{ from, to string }

func (s span) has(key string) bool {
	return key >= s.from && (s.to == "" || key < s.to)
}

// upTo is the span as far as a key, and with it.
func (s span) upTo(key string) span {
	return span{s.from, behind(key)}
}

// only is the span of one key.
func only(key string) span {
	return span{key, behind(key)}
}

// behind is the key behind another one: none lies between these two.
func behind(key string) string {
	return key + "\x00"
}

// alike tells whether two trees have the same pairs in a span, of which there may be more than are told at one time.
func (s span) alike(a, b *btree.Tree) (bool, api.Errno) {
	for {
		l, e := a.Range(s.from, s.to, api.MaxPairs)
		if e != api.OK {
			return false, e
		}
		m, e := b.Range(s.from, s.to, api.MaxPairs)
		if e != api.OK {
			return false, e
		}
		if !slices.Equal(l, m) {
			return false, api.OK
		}
		if len(l) < api.MaxPairs {
			return true, api.OK
		}
		s.from = behind(l[len(l)-1].Key)
	}
}
