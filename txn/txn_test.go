package txn_test

import (
	"strings"
	"testing"

	"haversack/api"
	"haversack/btree"
	"haversack/disk"
	"haversack/page"
	"haversack/pager"
	"haversack/txn"
)

func wantNoOpen(t *testing.T, d *disk.Disk, wanted api.Errno) {
	t.Helper()
	if s, e := txn.Open(d); s != nil || e != wanted {
		t.Fatalf("Open = %v, %v; want none and %v", s, e, wanted)
	}
}

// P6.1

func TestFormatAndOpenRefuse(t *testing.T) {
	want(t, "Format of none", txn.Format(nil), api.ErrNil)
	wantNoOpen(t, nil, api.ErrNil)
	for _, sectors := range []int{1, 3} {
		d, _ := disk.New(sectors)
		want(t, "Format of a small disk", txn.Format(d), api.ErrArg)
		wantNoOpen(t, d, api.ErrArg)
		kill(t, d)
		want(t, "Format of a small disk without power", txn.Format(d), api.ErrArg)
		wantNoOpen(t, d, api.ErrArg)
	}
	d, _ := disk.New(4)
	wantNoOpen(t, d, api.ErrBroken)
	kill(t, d)
	want(t, "Format without power", txn.Format(d), api.ErrPower)
	wantNoOpen(t, d, api.ErrPower)
}

func TestFormatWithAFuse(t *testing.T) {
	whole := formatted(t, 10).Steps()
	for fuse := range whole + 1 {
		d, _ := disk.New(10)
		d.Fuse(fuse)
		wanted := api.ErrPower
		if fuse == whole {
			wanted = api.OK
		}
		want(t, "Format", txn.Format(d), wanted)
	}
}

func TestFormatEmpties(t *testing.T) {
	d, _ := stocked(t, 20, letters("abc")...)
	want(t, "Format", txn.Format(d), api.OK)
	s := opened(t, d)
	wantState(t, s, state{nil, 1, 18})
}

func TestOpenByTheRootsContent(t *testing.T) {
	for _, content := range []string{"", "\x00\x00\x00\x00"} {
		d := formatted(t, 6)
		layRoot(t, d, content)
		wantState(t, opened(t, d), state{nil, 2, 4})
	}
	for _, length := range []int{1, 2, 3, 5, 8, api.RootRoom} {
		d := formatted(t, 6)
		layRoot(t, d, strings.Repeat("\x00", length))
		wantNoOpen(t, d, api.ErrBroken)
	}
	for _, content := range []string{"\x00\x00\x00\x01", "\x00\x00\x00\x02", "\x00\x00\x00\x06", "\xff\xff\xff\xff", "\x80\x00\x00\x00"} {
		d := formatted(t, 6)
		layRoot(t, d, content)
		wantNoOpen(t, d, api.ErrBroken)
	}
}

// The highest byte comes first.
func TestOpenATreeFarBehind(t *testing.T) {
	d := formatted(t, 600)
	p, e := pager.Open(d)
	want(t, "pager.Open", e, api.OK)
	for n := 2; n < 258; n++ {
		want(t, "Use", p.Use(n), api.OK)
	}
	b := btree.At(p, 0)
	want(t, "Put", b.Put("a", "1"), api.OK)
	if b.Root() != 258 {
		t.Fatalf("the root is %d", b.Root())
	}
	want(t, "pager.Commit", p.Commit("\x00\x00\x01\x02"), api.OK)
	wantState(t, opened(t, d), state{list("a", "1"), 2, 597})
	want(t, "pager.Commit", p.Commit("\x02\x01\x00\x00"), api.OK)
	wantNoOpen(t, d, api.ErrBroken)
}

func TestOpenATreeThatIsNotSound(t *testing.T) {
	d, _ := stocked(t, 20, list("a", "1", "b", long(1000))...)
	root := treeRoot(t, d)
	for n := 2; n < 6; n++ {
		mend := spoil(t, d, n)
		if _, e := txn.Open(d); n == root && e != api.ErrBroken {
			t.Fatalf("Open = %v", e)
		}
		mend()
	}
	wantPairs(t, opened(t, d), list("a", "1", "b", long(1000)))
	layNode(t, d, root, api.Node{Leaf: true})
	wantNoOpen(t, d, api.ErrBroken)
	layNode(t, d, root, api.Node{Keys: []string{"b"}, Kids: []int{root, root}})
	wantNoOpen(t, d, api.ErrBroken)
}

// What a store commits is a tree as chapter 5 has it, with its root in the root's content.
func TestWhatLiesOnTheDisk(t *testing.T) {
	d, s := stocked(t, 200, numbered(0, 100, "v")...)
	p, e := pager.Open(d)
	want(t, "pager.Open", e, api.OK)
	b, e := btree.Open(p, treeRoot(t, d))
	want(t, "btree.Open", e, api.OK)
	l, e := b.Range("", "", 1000)
	want(t, "Range", e, api.OK)
	wantPairs(t, s, l)
	if p.Free() != s.Free() || p.Gen() != s.Gen() || d.Waiting() != 0 {
		t.Fatalf("%d pages are free in the gen %d, %d writes wait; the store has %d in %d", p.Free(), p.Gen(), d.Waiting(), s.Free(), s.Gen())
	}
}

func TestAStoreThatIsEmptied(t *testing.T) {
	d, s := stocked(t, 20, letters("ab")...)
	deleteAll(t, s, "a", "b")
	wantState(t, s, state{nil, 3, 18})
	wantAnew(t, d, s)
	putAll(t, s, letters("c")...)
	wantState(t, opened(t, d), state{letters("c"), 4, 17})
}

// P6.2

func TestOfNoStore(t *testing.T) {
	for _, s := range []*txn.Store{nil, {}} {
		if x := s.Begin(); x != nil {
			t.Fatal("Begin of none is a transaction")
		}
		wantNoPairs(t, s, api.ErrNil)
		want(t, "Check", s.Check(), api.ErrNil)
		if s.Gen() != 0 || s.Free() != 0 {
			t.Fatalf("the gen is %d, %d pages are free", s.Gen(), s.Free())
		}
	}
}

func TestLooks(t *testing.T) {
	d, s := stocked(t, 40)
	wantState(t, s, state{nil, 1, 38})
	x := s.Begin()
	want(t, "Put", x.Put("b", "1"), api.OK)
	want(t, "Put", x.Put("a", "2"), api.OK)
	wantState(t, s, state{nil, 1, 38})
	want(t, "Commit", x.Commit(), api.OK)
	wantState(t, s, state{list("a", "2", "b", "1"), 2, 37})
	y := s.Begin()
	want(t, "Put", y.Put("c", "3"), api.OK)
	y.Rollback()
	wantState(t, s, state{list("a", "2", "b", "1"), 2, 37})
	putAll(t, s, list("", "empty", "b\x00", "4")...)
	wantState(t, s, state{list("", "empty", "a", "2", "b", "1", "b\x00", "4"), 3, 37})
	wantAnew(t, d, s)
}

// A commit that has writes counts as one, even if all is there as it was.
func TestWritesThatChangeNothing(t *testing.T) {
	d, s := stocked(t, 40, letters("ab")...)
	putAll(t, s, letters("a")...)
	deleteAll(t, s, "x")
	wantState(t, s, state{letters("ab"), 4, 37})
	wantAnew(t, d, s)
}

func TestLooksWithoutPower(t *testing.T) {
	d, s := stocked(t, 40, letters("abc")...)
	gen, free := s.Gen(), s.Free()
	kill(t, d)
	wantNoPairs(t, s, api.ErrPower)
	want(t, "Check", s.Check(), api.ErrPower)
	if s.Gen() != gen || s.Free() != free {
		t.Fatalf("%d pages are free in the gen %d", s.Free(), s.Gen())
	}
	if x := s.Begin(); x == nil {
		t.Fatal("Begin without power is none")
	}
}

func TestLooksAtWhatIsBroken(t *testing.T) {
	d, s := stocked(t, 40, letters("abc")...)
	root := treeRoot(t, d)
	mend := spoil(t, d, root)
	wantNoPairs(t, s, api.ErrBroken)
	want(t, "Check", s.Check(), api.ErrBroken)
	mend()
	wantPairs(t, s, letters("abc"))
	layNode(t, d, root, api.Node{Leaf: true})
	wantNoPairs(t, s, api.OK)
	want(t, "Check", s.Check(), api.ErrBroken)
}

// A root may have a gen that no page can have, and one behind which there is none.
func TestGensThatCanNotBe(t *testing.T) {
	for _, gen := range []int{1<<48 - 1, 1 << 62} {
		d, _ := disk.New(10)
		b, e := page.SealRoot(gen, "")
		want(t, "SealRoot", e, api.OK)
		want(t, "disk.Write", d.Write(gen%2, b), api.OK)
		s := opened(t, d)
		x := s.Begin()
		want(t, "Put", x.Put("a", "1"), api.OK)
		want(t, "Commit", x.Commit(), api.ErrBroken)
		wantState(t, s, state{nil, gen, 8})
	}
	d, _ := disk.New(10)
	b, _ := page.SealRoot(1<<62, "")
	want(t, "disk.Write", d.Write(0, b), api.OK)
	s := opened(t, d)
	x := s.Begin()
	want(t, "Delete", x.Delete("a"), api.OK)
	want(t, "Commit", x.Commit(), api.ErrBroken)
	wantState(t, s, state{nil, 1 << 62, 8})
}
