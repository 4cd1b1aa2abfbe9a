package mail

import (
	"strconv"
	"strings"

	"haversack/api"
	"haversack/txn"
)

// blank ends each number of a record.
const blank = " "

// over goes over a record's numbers in the order in which they are kept, so that who writes them and who reads them can't differ.
type over func(visit func(n *int))

// numbers are those of a record.
func numbers(l ...*int) over {
	return func(visit func(n *int)) {
		for _, n := range l {
			visit(n)
		}
	}
}

// tell is the record: its numbers, and what stands behind them.
func (o over) tell(rest string) string {
	var b []byte
	o(func(n *int) {
		b = strconv.AppendInt(b, int64(*n), 10)
		b = append(b, blank...)
	})
	return string(b) + rest
}

// read sets the numbers to what a record tells; it answers what stands behind them.
func (o over) read(record string) (string, bool) {
	ok := true
	o(func(n *int) {
		word, rest, is := strings.Cut(record, blank)
		told, right := number(word)
		ok = ok && is && right
		*n, record = told, rest
	})
	return record, ok
}

// read reads the record of a key, if it has one: its numbers into these, and what stands behind them.
func read(t *txn.Tx, key string, into ...*int) (string, bool, api.Errno) {
	record, is, e := t.Get(key)
	if e != api.OK || !is {
		return "", false, e
	}
	rest, ok := numbers(into...).read(record)
	if !ok {
		return "", false, api.ErrBroken
	}
	return rest, true, api.OK
}

// readNumbers reads the record of a key, if it has one, that has numbers alone.
func readNumbers(t *txn.Tx, key string, into ...*int) (bool, api.Errno) {
	rest, is, e := read(t, key, into...)
	if rest != "" {
		return false, api.ErrBroken
	}
	return is, e
}

// set makes a record that of a key. One that is so already is no write, so that what changes nothing needs no room.
func set(t *txn.Tx, key, record string) api.Errno {
	was, is, e := t.Get(key)
	if e != api.OK || is && was == record {
		return e
	}
	return t.Put(key, record)
}

// setNumber makes a number the record of a key.
func setNumber(t *txn.Tx, key string, n int) api.Errno {
	return set(t, key, numbers(&n).tell(""))
}

// next is the next number of what is counted.
func next(t *txn.Tx, what string) (int, api.Errno) {
	n := 0
	_, e := readNumbers(t, kindCount+what, &n)
	if e != api.OK {
		return 0, e
	}
	n++
	return n, setNumber(t, kindCount+what, n)
}

// pairs are those whose keys begin with this, by what stands behind it.
func pairs(t *txn.Tx, begin string) ([]api.Pair, api.Errno) {
	var l []api.Pair
	from, to := begin, behind(begin)
	for {
		more, e := t.Range(from, to, api.MaxPairs)
		if e != api.OK {
			return nil, e
		}
		for _, p := range more {
			l = append(l, api.Pair{Key: p.Key[len(begin):], Value: p.Value})
		}
		if len(more) < api.MaxPairs {
			return l, api.OK
		}
		from = more[len(more)-1].Key + "\x00"
	}
}

// keys is what stands behind this in the keys that begin with it.
func keys(t *txn.Tx, begin string) ([]string, api.Errno) {
	l, e := pairs(t, begin)
	if e != api.OK {
		return nil, e
	}
	rests := make([]string, len(l))
	for i, p := range l {
		rests[i] = p.Key
	}
	return rests, api.OK
}

// behind is the first key behind all those that begin with this, which is ASCII; nothing, if there is none.
func behind(begin string) string {
	if begin == "" {
		return ""
	}
	last := len(begin) - 1
	return begin[:last] + string(begin[last]+1)
}
