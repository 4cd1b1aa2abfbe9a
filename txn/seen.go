package txn

import (
	"slices"
	"strings"

	"haversack/api"
	"haversack/btree"
)

// write is what a key has behind a transaction: a value, or nothing.
type write struct {
	value string
	there bool
}

func (w write) lay(b *btree.Tree, key string) api.Errno {
	if w.there {
		return b.Put(key, w.value)
	}
	_, e := b.Delete(key)
	return e
}

// seen is the first pairs of a span as the transaction sees them. Of the snapshot no more is read at one time than is still wanted; where writes hide some of that, it is gone on behind.
func (t *Tx) seen(s span, most int) ([]api.Pair, api.Errno) {
	mine := t.wrote(s)
	if len(mine) == 0 {
		return t.Tree.Range(s.from, s.to, most)
	}
	var told []api.Pair
	for {
		wanted := most - len(told)
		l, e := t.Tree.Range(s.from, s.to, wanted)
		if e != api.OK {
			return nil, e
		}
		if len(l) < wanted {
			told = append(told, t.laidOver(l, mine)...)
			return told[:min(len(told), most)], api.OK
		}
		next := behind(l[wanted-1].Key)
		count, _ := slices.BinarySearch(mine, next)
		told = append(told, t.laidOver(l, mine[:count])...)
		if len(told) >= most {
			return told[:most], api.OK
		}
		mine, s.from = mine[count:], next
	}
}

// wrote is the keys of a span that are written, in order.
func (t *Tx) wrote(s span) []string {
	var keys []string
	for key := range t.writes {
		if s.has(key) {
			keys = append(keys, key)
		}
	}
	slices.Sort(keys)
	return keys
}

// laidOver is pairs of the snapshot with the writes of these keys laid over them.
func (t *Tx) laidOver(l []api.Pair, keys []string) []api.Pair {
	l = slices.DeleteFunc(l, func(p api.Pair) bool {
		_, is := t.writes[p.Key]
		return is
	})
	for _, key := range keys {
		if w := t.writes[key]; w.there {
			l = append(l, api.Pair{Key: key, Value: w.value})
		}
	}
	slices.SortFunc(l, func(a, b api.Pair) int { return strings.Compare(a.Key, b.Key) })
	return l
}
