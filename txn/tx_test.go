package txn_test

import (
	"maps"
	"math"
	"slices"
	"testing"

	"haversack/api"
	"haversack/txn"
)

// wantRefused holds that all calls of a transaction that answer an error answer this one, whatever they are given.
func wantRefused(t *testing.T, x *txn.Tx, wanted api.Errno) {
	t.Helper()
	for _, key := range []string{"", "a", long(api.MaxKey + 1)} {
		wantNoGet(t, x, key, wanted)
		want(t, "Put", x.Put(key, "1"), wanted)
		want(t, "Put", x.Put(key, long(api.MaxValue+1)), wanted)
		want(t, "Delete", x.Delete(key, "b"), wanted)
		wantNoRange(t, x, key, "", 9, wanted)
	}
	want(t, "Delete", x.Delete(), wanted)
	wantNoRange(t, x, "", "", 0, wanted)
	wantNoRange(t, x, "", "", -1, wanted)
	want(t, "Commit", x.Commit(), wanted)
	x.Firm()
	x.Rollback()
	want(t, "Commit", x.Commit(), wanted)
}

func TestOfNoTransaction(t *testing.T) {
	for _, x := range []*txn.Tx{nil, {}} {
		wantRefused(t, x, api.ErrNil)
	}
}

func TestOneThatIsNotOpen(t *testing.T) {
	d, s := stocked(t, 40, letters("ab")...)
	ends := map[string]func(x *txn.Tx){
		"Commit without writes": func(x *txn.Tx) { want(t, "Commit", x.Commit(), api.OK) },
		"Rollback":              func(x *txn.Tx) { x.Rollback() },
		"Rollback of writes": func(x *txn.Tx) {
			want(t, "Put", x.Put("z", "1"), api.OK)
			x.Rollback()
		},
		"Commit of a conflict": func(x *txn.Tx) {
			wantGet(t, x, "a", "a")
			putAll(t, s, list("a", "1")...)
			putAll(t, s, list("b", "b")...)
			want(t, "Put", x.Put("z", "1"), api.OK)
			want(t, "Commit", x.Commit(), api.ErrConflict)
			putAll(t, s, list("a", "a")...)
		},
		"Commit of too much": func(x *txn.Tx) {
			want(t, "Put", x.Put("z", long(api.MaxValue)), api.OK)
			want(t, "Commit", x.Commit(), api.ErrFull)
		},
	}
	for _, what := range slices.Sorted(maps.Keys(ends)) {
		x := s.Begin()
		ends[what](x)
		was := stateOf(t, s)
		wantRefused(t, x, api.ErrState)
		wantState(t, s, was)
		wantPairs(t, s, letters("ab"))
		wantAnew(t, d, s)
	}
}

// An end that comes again does not let go of what another one still has.
func TestEndsThatComeAgain(t *testing.T) {
	_, s := stocked(t, 400, numbered(0, 300, "old")...)
	x, y := s.Begin(), s.Begin()
	x.Rollback()
	x.Rollback()
	want(t, "Commit", x.Commit(), api.ErrState)
	for range 5 {
		putAll(t, s, numbered(0, 300, "new")...)
	}
	wantRange(t, y, "", "", 1000, numbered(0, 300, "old"))
}

// P6.3

func TestGet(t *testing.T) {
	_, s := stocked(t, 400, list("", "e", "a", "1", "b", "", "c", long(5000))...)
	x := s.Begin()
	wantGet(t, x, "", "e")
	wantGet(t, x, "a", "1")
	wantGet(t, x, "b", "")
	wantGet(t, x, "c", long(5000))
	wantNoGet(t, x, "d", api.OK)
	wantNoGet(t, x, "a\x00", api.OK)
	wantNoGet(t, x, long(1000), api.OK)
	want(t, "Put", x.Put("a", "2"), api.OK)
	want(t, "Put", x.Put("d", long(api.MaxValue)), api.OK)
	want(t, "Delete", x.Delete("b", "c", "x"), api.OK)
	for range 2 {
		wantGet(t, x, "a", "2")
		wantGet(t, x, "d", long(api.MaxValue))
		wantNoGet(t, x, "b", api.OK)
		wantNoGet(t, x, "c", api.OK)
		wantNoGet(t, x, "x", api.OK)
		wantGet(t, x, "", "e")
	}
	want(t, "Put", x.Put("b", "3"), api.OK)
	want(t, "Put", x.Put("x", ""), api.OK)
	want(t, "Delete", x.Delete("a", "", "d"), api.OK)
	wantRange(t, x, "", "", 9, list("b", "3", "x", ""))
	wantGet(t, x, "b", "3")
	wantGet(t, x, "x", "")
	for _, key := range []string{"a", "", "d"} {
		wantNoGet(t, x, key, api.OK)
	}
	wantPairs(t, s, list("", "e", "a", "1", "b", "", "c", long(5000)))
}

// pattern is writes to lay over pairs; an empty value deletes.
type pattern []api.Pair

var patterns = []pattern{
	nil,
	list("c", "2"),
	list("c", ""),
	list("a", "2", "b", "2", "d", "2", "i", "2"),
	list("a", "", "c", "", "e", "", "g", ""),
	list("a", "", "b", "2", "c", "", "d", "2", "e", ""),
	list("a", "", "a\x00", "2", "c", "", "c\x00", "2", "x", ""),
	list("", "2", "g", "", "h", "2", "i", "", "j", "2"),
}

// write does with a transaction what a pattern says; what it sees then of these pairs.
func (p pattern) write(t *testing.T, x *txn.Tx, l []api.Pair) []api.Pair {
	t.Helper()
	holds := map[string]string{}
	for _, k := range l {
		holds[k.Key] = k.Value
	}
	for _, k := range p {
		if k.Value == "" {
			want(t, "Delete", x.Delete(k.Key), api.OK)
			delete(holds, k.Key)
		} else {
			want(t, "Put", x.Put(k.Key, k.Value), api.OK)
			holds[k.Key] = k.Value
		}
	}
	return listOf(holds)
}

func TestRange(t *testing.T) {
	ends := []string{"", "\x00", "a", "a\x00", "b", "c", "c\x00", "d", "e", "g", "h", "i", "j", "z", long(1000)}
	for _, l := range [][]api.Pair{nil, letters("aceg"), letters("abcdefgh")} {
		_, s := stocked(t, 40, l...)
		for _, p := range patterns {
			x := s.Begin()
			seen := p.write(t, x, l)
			for _, from := range ends {
				for _, to := range ends {
					for _, most := range []int{math.MinInt, -1, 0, 1, 2, 3, 4, 5, 9, api.MaxPairs, api.MaxPairs + 1, math.MaxInt} {
						wantRange(t, x, from, to, most, cutOut(seen, from, to, most))
					}
				}
			}
			x.Rollback()
		}
	}
}

func TestRangeOfManyThatAreDeleted(t *testing.T) {
	_, s := stocked(t, 400, numbered(0, 1000, "v")...)
	x := s.Begin()
	for _, p := range numbered(10, 900, "") {
		want(t, "Delete", x.Delete(p.Key), api.OK)
	}
	want(t, "Put", x.Put("00500x", "w"), api.OK)
	wanted := slices.Concat(numbered(0, 10, "v"), list("00500x", "w"), numbered(910, 90, "v"))
	for _, most := range []int{1, 10, 11, 12, 50, 100, 101, 102} {
		wantRange(t, x, "", "", most, cutOut(wanted, "", "", most))
		wantRange(t, x, "00009", "00950", most, cutOut(wanted, "00009", "00950", most))
		wantRange(t, x, "00011", "", most, cutOut(wanted, "00011", "", most))
	}
}

// A store with more pairs than are told at one time.
func TestMoreThanMaxPairs(t *testing.T) {
	d, s := stocked(t, api.MaxSectors)
	const count = api.MaxPairs + 5
	for from := 0; from < count; from += 500 {
		putAll(t, s, numbered(from, min(500, count-from), "v")...)
	}
	all := numbered(0, count, "v")
	wantPairs(t, s, all[:api.MaxPairs])
	wantPairs(t, opened(t, d), all[:api.MaxPairs])

	x, y, z := s.Begin(), s.Begin(), s.Begin()
	wantRange(t, x, "", "", math.MaxInt, all[:api.MaxPairs])
	wantRange(t, x, "00005", "", math.MaxInt, all[5:])
	for _, key := range []string{"00001", "00003", "00009", "19998"} {
		want(t, "Delete", y.Delete(key), api.OK)
	}
	left := slices.DeleteFunc(slices.Clone(all), func(p api.Pair) bool {
		return slices.Contains([]string{"00001", "00003", "00009", "19998"}, p.Key)
	})
	wantRange(t, y, "", "", api.MaxPairs-1, left[:api.MaxPairs-1])
	wantRange(t, y, "", "", api.MaxPairs, left[:api.MaxPairs])
	wantRange(t, y, "", "", math.MaxInt, left[:api.MaxPairs])
	for _, p := range numbered(0, 10, "") {
		want(t, "Delete", z.Delete(p.Key), api.OK)
	}
	wantRange(t, z, "", "", math.MaxInt, all[10:])

	// What was read goes as far as the last pair that was told: of x to the last one of all (by its other range), of y to the last but one, of z without end.
	x.Firm()
	putAll(t, s, list("20004", "new")...)
	want(t, "Commit", x.Commit(), api.ErrConflict)
	want(t, "Commit", z.Commit(), api.ErrConflict)
	want(t, "Commit", y.Commit(), api.OK)
	w := s.Begin()
	for _, p := range numbered(0, 20, "") {
		want(t, "Delete", w.Delete(p.Key), api.OK)
	}
	left[len(left)-1].Value = "new"
	wantRange(t, w, "", "", math.MaxInt, cutOut(left, "00020", "", math.MaxInt))
	want(t, "Commit", w.Commit(), api.OK)
	wantAnew(t, d, s)
}

func TestRangeOfManyWrites(t *testing.T) {
	_, s := stocked(t, 40, letters("ab")...)
	x := s.Begin()
	all := numbered(0, api.MaxPairs+5, "v")
	for _, p := range all {
		want(t, "Put", x.Put(p.Key, p.Value), api.OK)
	}
	wantRange(t, x, "", "", math.MaxInt, all[:api.MaxPairs])
	wantRange(t, x, "00007", "", math.MaxInt, slices.Concat(all[7:], letters("ab")))
	wantRange(t, x, "00006", "", math.MaxInt, slices.Concat(all[6:], letters("a")))
	x.Rollback()
}

func TestReadsWithoutPower(t *testing.T) {
	d, s := stocked(t, 40, letters("abc")...)
	x := s.Begin()
	wantGet(t, x, "a", "a")
	want(t, "Put", x.Put("b", "1"), api.OK)
	want(t, "Delete", x.Delete("c"), api.OK)
	kill(t, d)
	wantNoGet(t, x, "a", api.ErrPower)
	wantNoGet(t, x, "x", api.ErrPower)
	wantNoRange(t, x, "", "", 9, api.ErrPower)
	wantNoRange(t, x, "b", "", 1, api.ErrPower)
	wantNoRange(t, x, "", "", 0, api.OK)
	// Of what it has written it needs no snapshot.
	wantGet(t, x, "b", "1")
	wantNoGet(t, x, "c", api.OK)
	want(t, "Put", x.Put("d", "1"), api.OK)
	want(t, "Delete", x.Delete("a"), api.OK)
	wantNoGet(t, x, "a", api.OK)
	want(t, "Commit", x.Commit(), api.ErrPower)
	wantRefused(t, x, api.ErrState)
}

func TestReadsOfWhatIsBroken(t *testing.T) {
	d, s := stocked(t, 40, list("b", long(100))...)
	putAll(t, s, list("a", "1", "c", "3")...)
	chain := 2 // the lowest page of all: a chain is laid ahead of its leaf
	x := s.Begin()
	mend := spoil(t, d, chain)
	wantGet(t, x, "a", "1")
	wantNoGet(t, x, "b", api.ErrBroken)
	wantRange(t, x, "", "b", 9, list("a", "1"))
	wantRange(t, x, "", "", 1, list("a", "1"))
	wantNoRange(t, x, "", "", 2, api.ErrBroken)
	want(t, "Put", x.Put("0", "0"), api.OK)
	wantRange(t, x, "", "", 1, list("0", "0"))
	wantNoRange(t, x, "", "", 9, api.ErrBroken)
	mend()
	wantRange(t, x, "", "", 9, list("0", "0", "a", "1", "b", long(100), "c", "3"))
}

// What was refused was not read.
func TestReadsThatFailAreNone(t *testing.T) {
	d, s := stocked(t, 40, letters("abc")...)
	x := s.Begin()
	want(t, "Put", x.Put("z", "1"), api.OK)
	mend := spoil(t, d, treeRoot(t, d))
	wantNoGet(t, x, "a", api.ErrBroken)
	wantNoGet(t, x, "d", api.ErrBroken)
	wantNoRange(t, x, "", "", 9, api.ErrBroken)
	mend()
	putAll(t, s, list("a", "1", "d", "1")...)
	want(t, "Commit", x.Commit(), api.OK)
	wantPairs(t, s, list("a", "1", "b", "b", "c", "c", "d", "1", "z", "1"))
}

// P6.4

func TestPutAndDeleteRefuse(t *testing.T) {
	d, s := stocked(t, 400, letters("abc")...)
	x := s.Begin()
	want(t, "Put", x.Put("a", "1"), api.OK)
	tooLong, tooBig := long(api.MaxKey+1), long(api.MaxValue+1)
	want(t, "Put of a long key", x.Put(tooLong, "1"), api.ErrArg)
	want(t, "Put of a long key and a long value", x.Put(tooLong, tooBig), api.ErrArg)
	want(t, "Put of a long value", x.Put("a", tooBig), api.ErrLong)
	want(t, "Put of a long value", x.Put("x", tooBig), api.ErrLong)
	for _, keys := range [][]string{{tooLong}, {tooLong, "a", "b"}, {"a", tooLong, "b"}, {"a", "b", tooLong}, {"a", tooLong, "b", tooLong + "x"}} {
		given := slices.Clone(keys)
		want(t, "Delete of a long key", x.Delete(keys...), api.ErrArg)
		if !slices.Equal(keys, given) {
			t.Fatalf("Delete changed what it was given: %q", keys)
		}
	}
	wantRange(t, x, "", "", 9, list("a", "1", "b", "b", "c", "c"))
	want(t, "Commit", x.Commit(), api.OK)
	wantPairs(t, s, list("a", "1", "b", "b", "c", "c"))

	x = s.Begin()
	most, big := long(api.MaxKey), long(api.MaxValue)
	want(t, "Put of MaxKey and MaxValue bytes", x.Put(most, big), api.OK)
	want(t, "Put of the empty key", x.Put("", ""), api.OK)
	wantGet(t, x, most, big)
	want(t, "Commit", x.Commit(), api.OK)
	wantPairs(t, s, list("", "", "a", "1", "b", "b", "c", "c", most, big))
	x = s.Begin()
	want(t, "Delete", x.Delete("b", most, "b", "", "none"), api.OK)
	wantRange(t, x, "", "", 9, list("a", "1", "c", "c"))
	want(t, "Commit", x.Commit(), api.OK)
	wantPairs(t, s, list("a", "1", "c", "c"))
	wantAnew(t, d, s)
}

// Writes that were refused are none: nothing is there to be committed.
func TestRefusedWritesAreNone(t *testing.T) {
	d, s := stocked(t, 40, letters("abc")...)
	steps, was := d.Steps(), stateOf(t, s)
	x := s.Begin()
	want(t, "Put", x.Put(long(api.MaxKey+1), "1"), api.ErrArg)
	want(t, "Put", x.Put("a", long(api.MaxValue+1)), api.ErrLong)
	want(t, "Delete", x.Delete("a", long(api.MaxKey+1)), api.ErrArg)
	want(t, "Delete of nothing", x.Delete(), api.OK)
	want(t, "Commit", x.Commit(), api.OK)
	wantState(t, s, was)
	if d.Steps() != steps {
		t.Fatal("a commit without writes did a step")
	}
}

func TestTheLastWriteCounts(t *testing.T) {
	_, s := stocked(t, 400, letters("abc")...)
	x := s.Begin()
	for _, value := range []string{"1", long(3000), "", "2"} {
		want(t, "Delete", x.Delete("a", "d"), api.OK)
		want(t, "Put", x.Put("a", value), api.OK)
		want(t, "Put", x.Put("d", value), api.OK)
		wantRange(t, x, "", "", 9, list("a", value, "b", "b", "c", "c", "d", value))
	}
	want(t, "Put", x.Put("b", "3"), api.OK)
	want(t, "Delete", x.Delete("b", "d"), api.OK)
	want(t, "Commit", x.Commit(), api.OK)
	wantPairs(t, s, list("a", "2", "c", "c"))
}

// What is handed in is not kept, what is handed out is the caller's.
func TestListsAreNotShared(t *testing.T) {
	_, s := stocked(t, 40, letters("abcd")...)
	x := s.Begin()
	keys := []string{"a", "b"}
	want(t, "Delete", x.Delete(keys...), api.OK)
	keys[0] = "c"
	want(t, "Put", x.Put("e", "e"), api.OK)
	for range 2 {
		l, e := x.Range("", "", 9)
		want(t, "Range", e, api.OK)
		if !slices.Equal(l, letters("cde")) {
			t.Fatalf("Range = %q", l)
		}
		for i := range l {
			l[i] = api.Pair{Key: "x", Value: "x"}
		}
		l, e = s.Pairs()
		want(t, "Pairs", e, api.OK)
		l[0].Value = "x"
		wantPairs(t, s, letters("abcd"))
	}
	want(t, "Commit", x.Commit(), api.OK)
	wantPairs(t, s, letters("cde"))
}
