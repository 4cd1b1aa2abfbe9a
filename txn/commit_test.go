package txn_test

import (
	"testing"

	"haversack/api"
	"haversack/txn"
)

// Reads of a transaction, for the tests below.

func gets(keys ...string) func(x *txn.Tx) {
	return func(x *txn.Tx) {
		for _, key := range keys {
			x.Get(key)
		}
	}
}

func ranges(from, to string, most int) func(x *txn.Tx) {
	return func(x *txn.Tx) { x.Range(from, to, most) }
}

func puts(l ...api.Pair) func(x *txn.Tx) {
	return func(x *txn.Tx) {
		for _, p := range l {
			x.Put(p.Key, p.Value)
		}
	}
}

func deletes(keys ...string) func(x *txn.Tx) {
	return func(x *txn.Tx) { x.Delete(keys...) }
}

func both(first, second func(x *txn.Tx)) func(x *txn.Tx) {
	return func(x *txn.Tx) {
		first(x)
		second(x)
	}
}

// done does this as a transaction of its own.
func done(t *testing.T, s *txn.Store, what func(x *txn.Tx)) {
	t.Helper()
	x := s.Begin()
	what(x)
	want(t, "Commit", x.Commit(), api.OK)
}

// clashes are what a transaction does with a store of a, c, e, g, at which keys a change of another one is a conflict, and at which it is none (a key in capitals is one that the other one deletes), and whether it writes itself.
var clashes = []struct {
	what    string
	do      func(x *txn.Tx)
	yes, no string
	writes  bool
}{
	{"nothing", func(x *txn.Tx) {}, "", "abcdefghACEG", false},
	{"Get of a key that is there", gets("c"), "cC", "abdeghAEGB", false},
	{"Get of one that is not", gets("d"), "d", "abceghACEGD", false},
	{"Gets of several", gets("a", "d", "a"), "aAd", "bceghCEG", false},
	{"Get of what it has written", both(puts(letters("cd")...), gets("c", "d")), "", "abcdeghACEG", true},
	{"Get of what it has deleted", both(deletes("c", "d"), gets("c", "d")), "", "abcdeghACEG", true},
	{"Get of what it writes later", both(gets("c"), puts(letters("c")...)), "cC", "abdeg", true},
	{"Get of what it deletes later", both(gets("c", "d"), deletes("c", "d")), "cCd", "abegD", true},
	{"Range of all", ranges("", "", 9), "abcdefghACEG", "BDFH", false},
	{"Range with an end", ranges("b", "e", 9), "bcdC", "aefghAEG", false},
	{"Range whose end is none of the keys", ranges("b", "f", 9), "bcdeCE", "afghAG", false},
	{"Range from a key on", ranges("c", "", 9), "cdefghCEG", "abA", false},
	{"Range of an empty part", ranges("h", "k", 9), "hij", "acegkzACEG", false},
	{"Range of an empty part between", ranges("c\x00", "e", 9), "d", "abcefghACEG", false},
	{"Range of fewer than are there", ranges("", "", 2), "abcAC", "defghEG", false},
	{"Range of one", ranges("b", "", 1), "bcC", "adefghAEG", false},
	{"Range of one less", ranges("a", "h", 3), "abcdeACE", "fghiG", false},
	{"Range of just so many", ranges("a", "h", 4), "abcdefgACEG", "hi", false},
	{"Range of one more", ranges("a", "i", 5), "abcdefghACEG", "ijz", false},
	{"Range of just so many without end", ranges("", "", 4), "abcdefgACEG", "hz", false},
	{"Range of one more without end", ranges("", "", 5), "abcdefghzACEG", "B", false},
	{"Range of none", ranges("", "", 0), "", "abcdefghACEG", false},
	{"Range of fewer than none", ranges("", "", -7), "", "abcdefghACEG", false},
	{"Range that ends ahead of its beginning", ranges("e", "b", 9), "", "abcdefghACEG", false},
	{"Range that ends where it begins", ranges("c", "c", 9), "", "abcdefghACEG", false},
	{"Range with its own write as the last", both(puts(letters("b")...), ranges("", "", 2)), "abA", "cdeghCEG", true},
	{"Range with its own write behind", both(puts(letters("d")...), ranges("", "", 2)), "abcAC", "deghEG", true},
	{"Range with its own write over one", both(puts(letters("c")...), ranges("b", "", 1)), "bcC", "adegAEG", true},
	{"Range without what it has deleted", both(deletes("a", "c"), ranges("", "", 1)), "abcdeACE", "fghG", true},
	{"Range of what it has deleted", both(deletes("a", "c", "e", "g"), ranges("", "", 1)), "abcdefghzACEG", "", true},
	{"Range of what it has deleted, with an end", both(deletes("c"), ranges("b", "d", 9)), "bcC", "adegAEG", true},
	{"a Range and a Get", both(ranges("a", "b", 9), gets("e")), "aAeE", "bcdfghCG", false},
	{"two Ranges", both(ranges("a", "b", 9), ranges("e", "f", 1)), "aAeE", "bcdfghCG", false},
	{"one Range twice", both(ranges("a", "", 1), ranges("a", "", 2)), "abcAC", "deghEG", false},
}

// changed does what a sign of a clash says.
func changed(t *testing.T, s *txn.Store, sign rune) {
	t.Helper()
	if sign >= 'A' && sign <= 'Z' {
		deleteAll(t, s, string(sign-'A'+'a'))
		return
	}
	putAll(t, s, list(string(sign), "new")...)
}

// P6.5

func TestConflicts(t *testing.T) {
	for _, c := range clashes {
		for _, sign := range c.yes + c.no {
			wanted := api.ErrConflict
			for _, n := range c.no {
				if n == sign {
					wanted = api.OK
				}
			}
			for _, firm := range []bool{false, true} {
				_, s := stocked(t, 60, letters("aceg")...)
				x := s.Begin()
				c.do(x)
				if firm {
					x.Firm()
				}
				want(t, "Put", x.Put("mine", "1"), api.OK)
				changed(t, s, sign)
				was := stateOf(t, s)
				if e := x.Commit(); e != wanted {
					t.Fatalf("%s: Commit behind a change of %c = %v; want %v", c.what, sign, e, wanted)
				}
				want(t, "Commit", x.Commit(), api.ErrState)
				if wanted != api.OK {
					wantPairs(t, s, was.pairs)
					if s.Gen() != was.gen {
						t.Fatal("a conflict has changed the gen")
					}
				}
			}
		}
	}
}

// The key just behind one that was read was not.
func TestTheKeyJustBehind(t *testing.T) {
	for _, do := range []func(x *txn.Tx){gets("c"), ranges("b", "", 1), ranges("", "", 2), ranges("a", "c\x00", 9)} {
		_, s := stocked(t, 60, letters("ace")...)
		x, y := s.Begin(), s.Begin()
		do(x)
		x.Firm()
		do(y)
		y.Firm()
		putAll(t, s, list("c\x00", "1")...)
		want(t, "Commit", x.Commit(), api.OK)
		putAll(t, s, list("c", "1")...)
		want(t, "Commit", y.Commit(), api.ErrConflict)
	}
}

// Without writes what was read must hold just if it is firm.
func TestConflictsWithoutWrites(t *testing.T) {
	for _, c := range clashes {
		for _, sign := range c.yes {
			_, s := stocked(t, 60, letters("aceg")...)
			x, y, z := s.Begin(), s.Begin(), s.Begin()
			y.Firm()
			for _, each := range []*txn.Tx{x, y, z} {
				c.do(each)
			}
			z.Firm()
			changed(t, s, sign)
			was := stateOf(t, s)
			if !c.writes {
				want(t, c.what+": Commit of one that is not firm", x.Commit(), api.OK)
			}
			want(t, c.what+": Commit of one that is firm", y.Commit(), api.ErrConflict)
			want(t, c.what+": Commit of one that is firm late", z.Commit(), api.ErrConflict)
			wantPairs(t, s, was.pairs)
		}
	}
}

func TestWithoutWrites(t *testing.T) {
	d, s := stocked(t, 60, letters("aceg")...)
	x, y, z := s.Begin(), s.Begin(), s.Begin()
	for _, each := range []*txn.Tx{x, y, z} {
		wantGet(t, each, "a", "a")
		wantRange(t, each, "c", "f", 9, letters("ce"))
	}
	y.Firm()
	z.Firm()
	putAll(t, s, list("b", "1", "f", "1")...)
	steps, gen := d.Steps(), s.Gen()
	want(t, "Commit of one that is firm", y.Commit(), api.OK)
	putAll(t, s, list("a", "1")...)
	want(t, "Commit of one that is not", x.Commit(), api.OK)
	want(t, "Commit of one that is firm", z.Commit(), api.ErrConflict)
	putAll(t, s, list("a", "2")...)
	if s.Gen() != gen+2 || d.Steps() == steps {
		t.Fatalf("the gen is %d", s.Gen())
	}
	wantAnew(t, d, s)
}

func TestExampleOfTheChapter(t *testing.T) {
	for _, key := range []string{"n", ""} {
		_, s := stocked(t, 40)
		a, b, c := s.Begin(), s.Begin(), s.Begin()
		wantNoGet(t, a, key, api.OK)
		wantNoGet(t, b, key, api.OK)
		want(t, "Put", a.Put(key, "1"), api.OK)
		want(t, "Put", b.Put(key, "2"), api.OK)
		want(t, "Put", c.Put(key, "3"), api.OK)
		want(t, "the first Commit", a.Commit(), api.OK)
		want(t, "the second Commit", b.Commit(), api.ErrConflict)
		wantPairs(t, s, list(key, "1"))
		want(t, "Commit of one that did not Get", c.Commit(), api.OK)
		wantPairs(t, s, list(key, "3"))
	}
}

// What counts is what the pairs are, not whether somebody wrote.
func TestWhatIsBackAgainIsNoConflict(t *testing.T) {
	_, s := stocked(t, 60, list("a", "1", "b", long(700))...)
	x, y := s.Begin(), s.Begin()
	for _, each := range []*txn.Tx{x, y} {
		wantGet(t, each, "a", "1")
		wantNoGet(t, each, "x", api.OK)
		wantRange(t, each, "", "z", 9, list("a", "1", "b", long(700)))
		each.Firm()
	}
	putAll(t, s, list("a", "1")...)
	putAll(t, s, list("b", long(700))...)
	deleteAll(t, s, "x")
	putAll(t, s, list("a", "2", "x", "1", "b", long(699))...)
	deleteAll(t, s, "x", "a", "b")
	putAll(t, s, list("a", "1", "b", long(700))...)
	want(t, "Commit", x.Commit(), api.OK)
	putAll(t, s, list("b", long(699)+"y")...)
	want(t, "Commit", y.Commit(), api.ErrConflict)
}

// Firm of one that is open no more, and of none, does nothing.
func TestFirmThatComesLate(t *testing.T) {
	_, s := stocked(t, 60, letters("a")...)
	x := s.Begin()
	wantGet(t, x, "a", "a")
	want(t, "Commit", x.Commit(), api.OK)
	x.Firm()
	putAll(t, s, list("a", "1")...)
	want(t, "Commit", x.Commit(), api.ErrState)
}

func TestRollback(t *testing.T) {
	d, s := stocked(t, 60, letters("abc")...)
	was, steps := stateOf(t, s), d.Steps()
	x := s.Begin()
	both(puts(letters("ax")...), deletes("b"))(x)
	x.Firm()
	x.Rollback()
	wantState(t, s, was)
	if d.Steps() != steps {
		t.Fatal("Rollback did a step")
	}
	wantRefused(t, x, api.ErrState)
}

// What one writes is seen by those that begin behind its commit, and by nobody else.
func TestWhoSeesWhat(t *testing.T) {
	_, s := stocked(t, 60, letters("ab")...)
	x, y := s.Begin(), s.Begin()
	both(puts(list("a", "1", "c", "1")...), deletes("b"))(x)
	wantRange(t, y, "", "", 9, letters("ab"))
	wantRange(t, s.Begin(), "", "", 9, letters("ab"))
	want(t, "Commit", x.Commit(), api.OK)
	wantRange(t, y, "", "", 9, letters("ab"))
	wantGet(t, y, "b", "b")
	wantRange(t, s.Begin(), "", "", 9, list("a", "1", "c", "1"))
}

// Room.

func TestCommitOfTooMuch(t *testing.T) {
	d, s := stocked(t, 20, letters("abc")...)
	for size := 100; size <= api.MaxValue; size += 997 {
		was := stateOf(t, s)
		x := s.Begin()
		puts(list("a", "1", "b", long(size), "d", long(size/2))...)(x)
		e := x.Commit()
		if e == api.OK {
			deleteAll(t, s, "b", "d")
			putAll(t, s, letters("abc")...)
			wantPairs(t, s, letters("abc"))
			continue
		}
		want(t, "Commit of too much", e, api.ErrFull)
		wantState(t, s, was)
		wantAnew(t, d, s)
	}
	x := s.Begin()
	puts(list("b", long(api.MaxValue))...)(x)
	want(t, "Commit of too much", x.Commit(), api.ErrFull)
	putAll(t, s, list("b", long(1000))...)
	wantPairs(t, s, list("a", "a", "b", long(1000), "c", "c"))
}

// On each disk, however small, a commit is done as a whole, or nothing of it.
func TestCommitsOnSmallDisks(t *testing.T) {
	full := 0
	for sectors := 4; sectors < 40; sectors++ {
		d, s := stocked(t, sectors)
		holds := map[string]string{}
		for _, p := range numbered(0, 40, long(55)) {
			was := stateOf(t, s)
			x := s.Begin()
			puts(p, api.Pair{Key: p.Key + "x", Value: long(130)})(x)
			switch e := x.Commit(); e {
			case api.OK:
				holds[p.Key], holds[p.Key+"x"] = p.Value, long(130)
			case api.ErrFull:
				full++
				wantState(t, s, was)
			default:
				t.Fatalf("Commit on %d sectors = %v", sectors, e)
			}
			wantPairs(t, s, listOf(holds))
		}
		wantAnew(t, d, s)
	}
	if full == 0 {
		t.Fatal("no disk was full")
	}
}

// What an open transaction still reads is no room; behind its end it is.
func TestSnapshotsTakeRoom(t *testing.T) {
	_, s := stocked(t, 20, list("a", long(3000))...)
	x := s.Begin()
	putAll(t, s, list("a", "1")...)
	free := s.Free()
	big := list("b", long(7000))
	y := s.Begin()
	puts(big...)(y)
	want(t, "Commit beside a snapshot", y.Commit(), api.ErrFull)
	wantGet(t, x, "a", long(3000))
	x.Rollback()
	if s.Free() <= free {
		t.Fatalf("%d pages are free behind a Rollback, %d ahead of it", s.Free(), free)
	}
	putAll(t, s, big...)
	wantPairs(t, s, list("a", "1", "b", long(7000)))
}

// A transaction that is committed is open no more: its own snapshot takes no room from its writes.
func TestItsOwnSnapshotTakesNoRoom(t *testing.T) {
	d, s := stocked(t, 20, list("a", long(3000))...)
	x := s.Begin()
	wantNoGet(t, x, "b", api.OK)
	putAll(t, s, list("a", "1")...)
	puts(list("b", long(5000))...)(x)
	if s.Free() > 10 {
		t.Fatalf("%d pages are free: the snapshot takes no room at all", s.Free())
	}
	want(t, "Commit", x.Commit(), api.OK)
	wantPairs(t, s, list("a", "1", "b", long(5000)))
	wantAnew(t, d, s)
}

// Each end, whatever it is, lets go of the snapshot.
func TestEndsLetGo(t *testing.T) {
	ends := []struct {
		wanted api.Errno
		do     func(x *txn.Tx)
	}{
		{api.OK, func(x *txn.Tx) {}},
		{api.OK, func(x *txn.Tx) { x.Firm() }},
		{api.ErrConflict, both(gets("a"), func(x *txn.Tx) { x.Firm() })},
		{api.ErrConflict, both(gets("a"), puts(letters("z")...))},
		{api.ErrFull, puts(list("z", long(api.MaxValue))...)},
		{api.OK, puts(list("z", "1")...)},
		{api.ErrState, func(x *txn.Tx) { x.Rollback() }},
	}
	for _, end := range ends {
		d, s := stocked(t, 60, list("a", long(3000))...)
		x := s.Begin()
		end.do(x)
		putAll(t, s, list("a", "1")...)
		want(t, "Commit", x.Commit(), end.wanted)
		wantAnew(t, d, s)
	}
}

// Errors of the disk.

func TestCommitOfWhatIsBroken(t *testing.T) {
	d, s := stocked(t, 60, letters("abc")...)
	was := stateOf(t, s)
	root := treeRoot(t, d)
	for _, do := range []func(x *txn.Tx){
		puts(letters("x")...),
		deletes("a"),
		both(gets("a"), puts(letters("x")...)),
		both(gets("x"), func(x *txn.Tx) { x.Firm() }),
		both(ranges("", "", 9), func(x *txn.Tx) { x.Firm() }),
	} {
		x, y := s.Begin(), s.Begin()
		do(x)
		gets("a")(y)
		mend := spoil(t, d, root)
		want(t, "Commit", x.Commit(), api.ErrBroken)
		want(t, "Commit without writes", y.Commit(), api.OK)
		mend()
		wantRefused(t, x, api.ErrState)
		wantState(t, s, was)
	}
}

// A part of the writes is laid, then a page is met that is none: all is taken back.
func TestCommitThatIsBrokenMidway(t *testing.T) {
	d, s := stocked(t, 60, list("m", long(700))...)
	putAll(t, s, letters("abc")...)
	was := stateOf(t, s)
	x := s.Begin()
	both(puts(list("b", "1", "d", long(2000))...), deletes("m"))(x)
	mend := spoil(t, d, 2)
	want(t, "Commit", x.Commit(), api.ErrBroken)
	mend()
	wantState(t, s, was)
	wantAnew(t, d, s)
	done(t, s, deletes("m"))
	wantPairs(t, s, letters("abc"))
}

// A conflict is told ahead of all that is wrong with the disk.
func TestConflictsComeFirst(t *testing.T) {
	d, s := stocked(t, 60, list("m", long(700))...)
	putAll(t, s, letters("abc")...)
	// Often, since what was read is gone through in no order.
	for range 20 {
		x := s.Begin()
		gets("m", "a", "b", "c")(x)
		x.Range("m", "", 1)
		puts(list("z", long(api.MaxValue))...)(x)
		putAll(t, s, list("b", long(10+s.Gen()%7))...)
		mend := spoil(t, d, 2)
		want(t, "Commit", x.Commit(), api.ErrConflict)
		mend()
	}
	x, y := s.Begin(), s.Begin()
	gets("c")(x)
	puts(letters("xyz")...)(x)
	puts(letters("xyz")...)(y)
	deleteAll(t, s, "c")
	d.Fuse(0)
	want(t, "Commit with a fuse of 0", x.Commit(), api.ErrConflict)
	want(t, "Commit with a fuse of 0", y.Commit(), api.ErrPower)
}

func TestCommitWithoutPower(t *testing.T) {
	d, s := stocked(t, 60, letters("abc")...)
	w, x, y, z := s.Begin(), s.Begin(), s.Begin(), s.Begin()
	puts(letters("x")...)(w)
	deletes("none")(x)
	gets("a")(y)
	gets("a")(z)
	z.Firm()
	kill(t, d)
	want(t, "Commit of a Put", w.Commit(), api.ErrPower)
	want(t, "Commit of a Delete", x.Commit(), api.ErrPower)
	want(t, "Commit without writes", y.Commit(), api.OK)
	want(t, "Commit of one that is firm", z.Commit(), api.ErrPower)
	for _, each := range []*txn.Tx{w, x, y, z} {
		wantRefused(t, each, api.ErrState)
	}
	wantPairs(t, opened(t, d.Crash()), letters("abc"))
}

// The tree of an empty store has no pages that could be read.
func TestCommitWithoutPowerOfAnEmptyStore(t *testing.T) {
	for _, do := range []func(x *txn.Tx){puts(letters("a")...), deletes("a")} {
		d, s := stocked(t, 60)
		x := s.Begin()
		do(x)
		d.Fuse(0)
		want(t, "Commit", x.Commit(), api.ErrPower)
		x = s.Begin()
		do(x)
		want(t, "Commit", x.Commit(), api.ErrPower)
		wantPairs(t, opened(t, d.Crash()), nil)
	}
}
