package pager_test

import (
	"bytes"
	"math"
	"slices"
	"strings"
	"testing"

	"haversack/api"
	"haversack/disk"
	"haversack/page"
	"haversack/pager"
)

func newDisk(t *testing.T, n int) *disk.Disk {
	t.Helper()
	d, e := disk.New(n)
	if e != api.OK {
		t.Fatalf("disk.New(%d) = %v", n, e)
	}
	return d
}

// formatted is a disk that is ready, and a pager on it.
func formatted(t *testing.T, n int) (*disk.Disk, *pager.Pager) {
	t.Helper()
	d := newDisk(t, n)
	if e := pager.Format(d); e != api.OK {
		t.Fatalf("Format = %v", e)
	}
	return d, opened(t, d)
}

func opened(t *testing.T, d *disk.Disk) *pager.Pager {
	t.Helper()
	p, e := pager.Open(d)
	if e != api.OK || p == nil {
		t.Fatalf("Open = %v, %v", p, e)
	}
	return p
}

// lay writes a sector past any pager, so that it lasts.
func lay(t *testing.T, d *disk.Disk, at int, b []byte) {
	t.Helper()
	if e := d.Write(at, b); e != api.OK {
		t.Fatalf("disk.Write(%d) = %v", at, e)
	}
	if e := d.Flush(); e != api.OK {
		t.Fatalf("disk.Flush = %v", e)
	}
}

func rootOf(t *testing.T, gen int, content string) []byte {
	t.Helper()
	b, e := page.SealRoot(gen, content)
	if e != api.OK {
		t.Fatalf("page.SealRoot(%d) = %v", gen, e)
	}
	return b
}

// withRoots is a disk whose roots' sectors hold these bytes.
func withRoots(t *testing.T, n int, zero, one []byte) *disk.Disk {
	t.Helper()
	d := newDisk(t, n)
	lay(t, d, 0, zero)
	lay(t, d, 1, one)
	return d
}

func want(t *testing.T, what string, e, wanted api.Errno) {
	t.Helper()
	if e != wanted {
		t.Fatalf("%s = %v; want %v", what, e, wanted)
	}
}

func put(t *testing.T, p *pager.Pager, content string) int {
	t.Helper()
	n, e := p.Put(7, content)
	if e != api.OK {
		t.Fatalf("Put(%q) = %v", content, e)
	}
	return n
}

func wantPut(t *testing.T, p *pager.Pager, n int) {
	t.Helper()
	if got := put(t, p, "x"); got != n {
		t.Fatalf("Put = %d; want %d", got, n)
	}
}

func wantNoPut(t *testing.T, p *pager.Pager, kind int, content string, wanted api.Errno) {
	t.Helper()
	if n, e := p.Put(kind, content); n != 0 || e != wanted {
		t.Fatalf("Put(%d, %d bytes) = %d, %v; want 0, %v", kind, len(content), n, e, wanted)
	}
}

func commit(t *testing.T, p *pager.Pager, content string) {
	t.Helper()
	want(t, "Commit", p.Commit(content), api.OK)
}

func wantRead(t *testing.T, p *pager.Pager, n, kind int, content string) {
	t.Helper()
	if k, c, e := p.Read(n); k != kind || c != content || e != api.OK {
		t.Fatalf("Read(%d) = %d, %q, %v; want %d, %q", n, k, c, e, kind, content)
	}
}

func wantNoRead(t *testing.T, p *pager.Pager, n int, wanted api.Errno) {
	t.Helper()
	if k, c, e := p.Read(n); k != 0 || c != "" || e != wanted {
		t.Fatalf("Read(%d) = %d, %q, %v; want %v", n, k, c, e, wanted)
	}
}

func wantLooks(t *testing.T, p *pager.Pager, gen int, root string, free int) {
	t.Helper()
	if p.Gen() != gen || p.Root() != root || p.Free() != free {
		t.Fatalf("Gen, Root, Free = %d, %q, %d; want %d, %q, %d", p.Gen(), p.Root(), p.Free(), gen, root, free)
	}
}

func wantSector(t *testing.T, d *disk.Disk, at int, b []byte) {
	t.Helper()
	if got, e := d.Read(at); e != api.OK || !bytes.Equal(got, b) {
		t.Fatalf("sector %d = %v, %v; want %v", at, got, e, b)
	}
}

// notPages are numbers that no page of a disk of n sectors has.
func notPages(n int) []int {
	return []int{math.MinInt, -1, 0, 1, n, n + 1, api.MaxSectors, math.MaxInt}
}

func TestExampleOfTheChapter(t *testing.T) {
	_, p := formatted(t, 6)
	wantLooks(t, p, 1, "", 4)
	if n, e := p.Put(7, "a"); n != 2 || e != api.OK {
		t.Fatalf("Put = %d, %v", n, e)
	}
	wantLooks(t, p, 1, "", 3)
	commit(t, p, "r")
	wantLooks(t, p, 2, "r", 3)
	want(t, "Drop", p.Drop(2), api.OK)
	wantLooks(t, p, 2, "r", 3)
	commit(t, p, "s")
	wantLooks(t, p, 3, "s", 4)
}

// P3.1

func TestFormatWritesTheFirstRoot(t *testing.T) {
	d := newDisk(t, 4)
	full := bytes.Repeat([]byte{255}, api.Sector)
	for at := range 4 {
		lay(t, d, at, full)
	}
	steps := d.Steps()
	want(t, "Format", pager.Format(d), api.OK)
	if d.Steps() != steps+5 || d.Waiting() != 0 {
		t.Fatalf("Format took %d steps, and %d writes wait", d.Steps()-steps, d.Waiting())
	}
	d = d.Crash()
	wantSector(t, d, 0, make([]byte, api.Sector))
	wantSector(t, d, 1, rootOf(t, 1, ""))
	wantSector(t, d, 2, full)
	wantSector(t, d, 3, full)
}

// Each fuse stops Format at another of its steps; what waits and what lasts then tells which steps were done.
func TestFormatGoesStepByStep(t *testing.T) {
	noughts, old := make([]byte, api.Sector), bytes.Repeat([]byte{255}, api.Sector)
	for fuse, step := range []struct {
		waits     int
		zero, one []byte
	}{
		{0, old, old}, {1, old, old}, {2, old, old}, {0, noughts, noughts}, {1, noughts, noughts},
	} {
		d := withRoots(t, 4, old, old)
		d.Fuse(fuse)
		want(t, "Format", pager.Format(d), api.ErrPower)
		if d.Waiting() != step.waits {
			t.Fatalf("%d writes wait behind %d steps; want %d", d.Waiting(), fuse, step.waits)
		}
		c := d.Crash()
		wantSector(t, c, 0, step.zero)
		wantSector(t, c, 1, step.one)
	}
}

func TestFormatMakesAllForgotten(t *testing.T) {
	d, p := formatted(t, 5)
	put(t, p, "a")
	commit(t, p, "r")
	commit(t, p, "s")
	want(t, "Format", pager.Format(d), api.OK)
	wantLooks(t, opened(t, d), 1, "", 3)
}

func TestFormatAndOpenRefuse(t *testing.T) {
	want(t, "Format(nil)", pager.Format(nil), api.ErrNil)
	if p, e := pager.Open(nil); p != nil || e != api.ErrNil {
		t.Fatalf("Open(nil) = %v, %v", p, e)
	}
	for n := 1; n < 4; n++ {
		d := newDisk(t, n)
		for range 2 {
			want(t, "Format of a small disk", pager.Format(d), api.ErrArg)
			if p, e := pager.Open(d); p != nil || e != api.ErrArg {
				t.Fatalf("Open of %d sectors = %v, %v", n, p, e)
			}
			if d.Waiting() != 0 {
				t.Fatal("Format wrote to a disk that is too small")
			}
			// The second time round its power is gone: that it is too small is told first.
			d.Fuse(0)
			d.Flush()
		}
	}
}

func TestFormatAndOpenTellOfThePower(t *testing.T) {
	d, _ := formatted(t, 4)
	d.Fuse(0)
	d.Flush()
	want(t, "Format without power", pager.Format(d), api.ErrPower)
	if p, e := pager.Open(d); p != nil || e != api.ErrPower {
		t.Fatalf("Open without power = %v, %v", p, e)
	}
	// That neither sector holds a root is told behind the power.
	d = newDisk(t, 4)
	d.Fuse(0)
	d.Flush()
	if p, e := pager.Open(d); p != nil || e != api.ErrPower {
		t.Fatalf("Open without power and root = %v, %v", p, e)
	}
}

func TestOpenOfTheSmallestAndTheGreatestDisk(t *testing.T) {
	for _, n := range []int{4, 5, api.MaxSectors} {
		_, p := formatted(t, n)
		wantLooks(t, p, 1, "", n-2)
	}
}

func TestOpenTakesTheGreaterRoot(t *testing.T) {
	none := make([]byte, api.Sector)
	page2, _ := page.Seal(1, 2, "")
	torn := slices.Concat(rootOf(t, 4, "four")[:100], rootOf(t, 6, "six")[100:])
	for _, c := range []struct {
		zero, one []byte
		gen       int
		content   string
	}{
		{none, rootOf(t, 1, "one"), 1, "one"},
		{rootOf(t, 2, "two"), none, 2, "two"},
		{rootOf(t, 2, "two"), rootOf(t, 1, "one"), 2, "two"},
		{rootOf(t, 2, "two"), rootOf(t, 3, "three"), 3, "three"},
		{rootOf(t, 2, "two"), rootOf(t, 3, ""), 3, ""},
		{rootOf(t, 2, "two"), rootOf(t, 9, "nine"), 9, "nine"},
		{rootOf(t, 1<<62, "most"), rootOf(t, 1<<62-1, "less"), 1 << 62, "most"},
		{rootOf(t, 1<<62-2, "less"), rootOf(t, 1<<62-1, "more"), 1<<62 - 1, "more"},
		// A root that lies in the wrong sector is none, however great its gen is.
		{rootOf(t, 9, "wrong"), rootOf(t, 1, "one"), 1, "one"},
		{rootOf(t, 2, "two"), rootOf(t, 8, "wrong"), 2, "two"},
		{rootOf(t, 2, "two"), rootOf(t, 2, "wrong"), 2, "two"},
		{torn, rootOf(t, 3, "three"), 3, "three"},
		{page2, rootOf(t, 3, "three"), 3, "three"},
		{rootOf(t, 2, strings.Repeat("\xff", api.RootRoom)), none, 2, strings.Repeat("\xff", api.RootRoom)},
	} {
		d := withRoots(t, 5, c.zero, c.one)
		steps := d.Steps()
		wantLooks(t, opened(t, d), c.gen, c.content, 3)
		if d.Steps() != steps || d.Waiting() != 0 {
			t.Fatal("Open changed the disk")
		}
	}
}

func TestOpenOfNoRoot(t *testing.T) {
	none := make([]byte, api.Sector)
	page2, _ := page.Seal(1, 2, "")
	two, three := rootOf(t, 2, "two"), rootOf(t, 3, "three")
	torn := slices.Concat(rootOf(t, 2, "two")[:12], rootOf(t, 4, "four")[12:])
	for _, c := range [][2][]byte{
		{none, none}, {page2, page2}, {three, two}, {three, none}, {none, two}, {torn, two}, {torn, none},
	} {
		d := withRoots(t, 4, c[0], c[1])
		if p, e := pager.Open(d); p != nil || e != api.ErrBroken {
			t.Fatalf("Open without a root = %v, %v", p, e)
		}
	}
	// A root beyond the roots' sectors is none.
	d := newDisk(t, 4)
	lay(t, d, 2, two)
	lay(t, d, 3, three)
	if p, e := pager.Open(d); p != nil || e != api.ErrBroken {
		t.Fatalf("Open of roots among the pages = %v, %v", p, e)
	}
}

func TestOpenFindsAllPagesFree(t *testing.T) {
	d, p := formatted(t, 6)
	put(t, p, "a")
	put(t, p, "b")
	commit(t, p, "r")
	q := opened(t, d)
	wantLooks(t, q, 2, "r", 4)
	for n := 2; n < 6; n++ {
		wantNoRead(t, q, n, api.ErrRange)
		want(t, "Drop of a free page", q.Drop(n), api.ErrRange)
	}
	want(t, "Unpin", q.Unpin(2), api.ErrNone)
	wantPut(t, q, 2)
}

// P3.2

func TestUseTakesFreePages(t *testing.T) {
	d, p := formatted(t, 7)
	for range 5 {
		put(t, p, "a")
	}
	commit(t, p, "r")
	q := opened(t, d)
	want(t, "Use()", q.Use(), api.OK)
	wantLooks(t, q, 2, "r", 5)
	want(t, "Use(2)", q.Use(2), api.OK)
	wantLooks(t, q, 2, "r", 4)
	want(t, "Use(6, 4)", q.Use(6, 4), api.OK)
	wantLooks(t, q, 2, "r", 2)
	for _, n := range []int{2, 4, 6} {
		wantRead(t, q, n, 7, "a")
	}
	for _, n := range []int{3, 5} {
		wantNoRead(t, q, n, api.ErrRange)
	}
	wantPut(t, q, 3)
	wantPut(t, q, 5)
	wantNoPut(t, q, 7, "x", api.ErrFull)
}

func TestUseRefusesWhatIsNoPage(t *testing.T) {
	_, p := formatted(t, 6)
	for _, n := range notPages(6) {
		want(t, "Use of no page", p.Use(n), api.ErrRange)
		want(t, "Use of no page behind one", p.Use(3, n), api.ErrRange)
	}
	wantLooks(t, p, 1, "", 4)
	want(t, "Use(2, 5)", p.Use(2, 5), api.OK)
}

func TestUseTellsOfTheFirstThatFails(t *testing.T) {
	_, p := formatted(t, 8)
	want(t, "Use(4)", p.Use(4), api.OK)
	for _, c := range []struct {
		l    []int
		want api.Errno
	}{
		{[]int{4}, api.ErrThere},
		{[]int{3, 4}, api.ErrThere},
		{[]int{3, 3}, api.ErrThere},
		{[]int{3, 5, 6, 3}, api.ErrThere},
		{[]int{4, 1}, api.ErrThere},
		{[]int{1, 4}, api.ErrRange},
		{[]int{3, 3, 8}, api.ErrThere},
		{[]int{3, 8, 3}, api.ErrRange},
		{[]int{2, 3, 8, 4}, api.ErrRange},
		{[]int{8, 8}, api.ErrRange},
	} {
		was := slices.Clone(c.l)
		want(t, "Use", p.Use(c.l...), c.want)
		if !slices.Equal(c.l, was) {
			t.Fatalf("Use changed what was handed in: %v", c.l)
		}
		wantLooks(t, p, 1, "", 5)
		for _, n := range []int{2, 3, 5, 6, 7} {
			wantNoRead(t, p, n, api.ErrRange)
		}
	}
	wantPut(t, p, 2)
	wantPut(t, p, 3)
	wantPut(t, p, 5)
}

func TestUseRefusesPagesOfEachState(t *testing.T) {
	_, p := formatted(t, 8)
	for range 4 {
		put(t, p, "a")
	}
	commit(t, p, "")
	p.Pin()
	p.Drop(2)
	commit(t, p, "")
	p.Drop(3)
	wantPut(t, p, 6)
	// 2 waits, 3 is dropped, 4 and 5 are used, 6 is fresh, 7 is free.
	for n := 2; n < 7; n++ {
		want(t, "Use of a used page", p.Use(n), api.ErrThere)
	}
	want(t, "Use(7)", p.Use(7), api.OK)
	wantLooks(t, p, 3, "", 0)
}

// What Use tells is neither fresh nor dropped.
func TestUsedPagesAreDroppedLikeCommittedOnes(t *testing.T) {
	_, p := formatted(t, 6)
	want(t, "Use", p.Use(2, 3), api.OK)
	p.Abort()
	wantLooks(t, p, 1, "", 2)
	want(t, "Drop", p.Drop(2), api.OK)
	wantLooks(t, p, 1, "", 2)
	p.Abort()
	want(t, "Drop", p.Drop(2), api.OK)
	commit(t, p, "")
	wantLooks(t, p, 2, "", 3)
	wantPut(t, p, 2)
}

// P3.3

func TestPutTakesTheLowestFreePage(t *testing.T) {
	d, p := formatted(t, 7)
	want(t, "Use(3)", p.Use(3), api.OK)
	for i, n := range []int{2, 4, 5, 6} {
		steps := d.Steps()
		wantPut(t, p, n)
		wantLooks(t, p, 1, "", 3-i)
		if d.Steps() != steps+1 || d.Waiting() != i+1 {
			t.Fatalf("Put took %d steps, and %d writes wait", d.Steps()-steps, d.Waiting())
		}
	}
	wantNoPut(t, p, 7, "x", api.ErrFull)
	want(t, "Drop(5)", p.Drop(5), api.OK)
	want(t, "Drop(4)", p.Drop(4), api.OK)
	wantPut(t, p, 4)
	wantPut(t, p, 5)
	wantNoPut(t, p, 7, "x", api.ErrFull)
	wantLooks(t, p, 1, "", 0)
}

func TestPutSealsWithTheNextGen(t *testing.T) {
	d, p := formatted(t, 6)
	for gen := 2; gen < 5; gen++ {
		n := put(t, p, "abc")
		b, _ := page.Seal(7, gen, "abc")
		wantSector(t, d, n, b)
		commit(t, p, "")
	}
}

func TestPutAndReadTellTheSame(t *testing.T) {
	d, p := formatted(t, 12)
	full := strings.Repeat("\xff", api.Room)
	contents := []string{"", "\x00", "a", "ab\x00", full[1:], full}
	kinds := []int{0, 1, 3, 128, 254, 255}
	for i, c := range contents {
		n, e := p.Put(kinds[i], c)
		want(t, "Put", e, api.OK)
		wantRead(t, p, n, kinds[i], c)
	}
	commit(t, p, "")
	q := opened(t, d.Crash())
	for i, c := range contents {
		wantRead(t, p, 2+i, kinds[i], c)
		want(t, "Use", q.Use(2+i), api.OK)
		wantRead(t, q, 2+i, kinds[i], c)
	}
}

func TestPutRefuses(t *testing.T) {
	d, p := formatted(t, 4)
	long := strings.Repeat("x", api.Room+1)
	refused := func() {
		t.Helper()
		for _, kind := range []int{math.MinInt, -1, 256, math.MaxInt} {
			wantNoPut(t, p, kind, "", api.ErrArg)
			wantNoPut(t, p, kind, long, api.ErrArg)
		}
		wantNoPut(t, p, 0, long, api.ErrLong)
		wantNoPut(t, p, 0, strings.Repeat("x", 100000), api.ErrLong)
	}
	refused()
	wantLooks(t, p, 1, "", 2)
	if d.Waiting() != 0 {
		t.Fatal("a Put that was refused wrote something")
	}
	wantPut(t, p, 2)
	wantPut(t, p, 3)
	refused()
	wantNoPut(t, p, 0, long[1:], api.ErrFull)
	wantRead(t, p, 2, 7, "x")
	if d.Waiting() != 2 {
		t.Fatal("a Put that was refused wrote something")
	}
}

func TestPutOfGreatGens(t *testing.T) {
	p := opened(t, withRoots(t, 4, rootOf(t, 1<<48-2, ""), make([]byte, api.Sector)))
	wantPut(t, p, 2)
	commit(t, p, "r")
	wantLooks(t, p, 1<<48-1, "r", 1)
	wantNoPut(t, p, 7, "x", api.ErrArg)
	wantNoPut(t, p, 7, strings.Repeat("x", api.Room+1), api.ErrArg)
	commit(t, p, "s")
	wantNoPut(t, p, 7, "x", api.ErrArg)
	wantLooks(t, p, 1<<48, "s", 1)
	wantRead(t, p, 2, 7, "x")
}

func TestReadOfWhatIsNotUsed(t *testing.T) {
	_, p := formatted(t, 5)
	put(t, p, "a")
	for _, n := range append(notPages(5), 3, 4) {
		wantNoRead(t, p, n, api.ErrRange)
		want(t, "Drop of what is not used", p.Drop(n), api.ErrRange)
	}
	wantLooks(t, p, 1, "", 2)
	want(t, "Drop(2)", p.Drop(2), api.OK)
	wantNoRead(t, p, 2, api.ErrRange)
	want(t, "Drop(2) again", p.Drop(2), api.ErrRange)
	wantLooks(t, p, 1, "", 3)
}

func TestReadOfASectorThatHoldsNoPage(t *testing.T) {
	d, p := formatted(t, 6)
	a, _ := page.Seal(1, 2, "a")
	damaged := slices.Clone(a)
	damaged[20] ^= 1
	lay(t, d, 3, rootOf(t, 3, "r"))
	lay(t, d, 4, damaged)
	lay(t, d, 5, a)
	want(t, "Use", p.Use(2, 3, 4, 5), api.OK)
	wantNoRead(t, p, 2, api.ErrBroken)
	wantNoRead(t, p, 3, api.ErrBroken)
	wantNoRead(t, p, 4, api.ErrBroken)
	wantRead(t, p, 5, 1, "a")
	// It is used for all that, and it stays so.
	wantLooks(t, p, 1, "", 0)
	want(t, "Drop", p.Drop(4), api.OK)
	wantNoRead(t, p, 4, api.ErrBroken)
	commit(t, p, "")
	wantPut(t, p, 4)
	wantRead(t, p, 4, 7, "x")
}

func TestReadTakesNoStep(t *testing.T) {
	d, p := formatted(t, 4)
	put(t, p, "a")
	steps := d.Steps()
	wantRead(t, p, 2, 7, "a")
	want(t, "Drop", p.Drop(2), api.OK)
	if d.Steps() != steps {
		t.Fatal("Read or Drop took a step")
	}
}

func TestDropOfEachState(t *testing.T) {
	_, p := formatted(t, 6)
	put(t, p, "a")
	put(t, p, "b")
	commit(t, p, "")
	gen := p.Pin()
	put(t, p, "c")
	wantLooks(t, p, 2, "", 1)
	want(t, "Drop of a fresh one", p.Drop(4), api.OK)
	wantLooks(t, p, 2, "", 2)
	want(t, "Drop of a free one", p.Drop(4), api.ErrRange)
	want(t, "Drop of a used one", p.Drop(2), api.OK)
	want(t, "Drop of a dropped one", p.Drop(2), api.ErrRange)
	wantLooks(t, p, 2, "", 2)
	wantRead(t, p, 2, 7, "a")
	commit(t, p, "")
	want(t, "Drop of one that waits", p.Drop(2), api.ErrRange)
	wantLooks(t, p, 3, "", 2)
	wantRead(t, p, 2, 7, "a")
	want(t, "Unpin", p.Unpin(gen), api.OK)
	want(t, "Drop of one that waited", p.Drop(2), api.ErrRange)
	wantNoRead(t, p, 2, api.ErrRange)
	wantLooks(t, p, 3, "", 3)
	wantRead(t, p, 3, 7, "b")
}

// P3.4

// Each fuse stops a commit at another of its steps.
func TestCommitGoesStepByStep(t *testing.T) {
	for fuse, step := range []struct {
		waits int
		lasts bool
	}{{2, false}, {0, true}, {1, true}} {
		d, p := formatted(t, 6)
		put(t, p, "a")
		put(t, p, "b")
		old, _ := d.Crash().Read(0)
		d.Fuse(fuse)
		want(t, "Commit", p.Commit("r"), api.ErrPower)
		if d.Waiting() != step.waits {
			t.Fatalf("%d writes wait behind %d steps; want %d", d.Waiting(), fuse, step.waits)
		}
		c := d.Crash()
		wantSector(t, c, 0, old)
		q := opened(t, c)
		want(t, "Use", q.Use(2, 3), api.OK)
		if _, _, e := q.Read(2); (e == api.OK) != step.lasts {
			t.Fatalf("a page that was put, behind %d steps: %v", fuse, e)
		}
		if fuse == 2 {
			wantLooks(t, opened(t, d.Crash(api.Keep{Write: 0, Bytes: api.Sector})), 2, "r", 4)
		}
	}
}

func TestCommitLasts(t *testing.T) {
	d, p := formatted(t, 6)
	for gen := 2; gen < 8; gen++ {
		content := strings.Repeat("r", gen)
		steps := d.Steps()
		commit(t, p, content)
		if d.Steps() != steps+3 || d.Waiting() != 0 {
			t.Fatalf("Commit took %d steps, and %d writes wait", d.Steps()-steps, d.Waiting())
		}
		wantLooks(t, p, gen, content, 4)
		wantLooks(t, opened(t, d.Crash()), gen, content, 4)
		wantSector(t, d, gen%2, rootOf(t, gen, content))
		if gen > 2 {
			wantSector(t, d, (gen-1)%2, rootOf(t, gen-1, content[1:]))
		}
	}
}

func TestCommitRefuses(t *testing.T) {
	d, p := formatted(t, 6)
	put(t, p, "a")
	commit(t, p, "r")
	put(t, p, "b")
	p.Drop(2)
	full := strings.Repeat("\xff", api.RootRoom)
	steps := d.Steps()
	want(t, "Commit of too much", p.Commit(full+"x"), api.ErrLong)
	want(t, "Commit of much too much", p.Commit(strings.Repeat("x", 100000)), api.ErrLong)
	if d.Steps() != steps || d.Waiting() != 1 {
		t.Fatal("a Commit that was refused took a step")
	}
	wantLooks(t, p, 2, "r", 2)
	// 3 is fresh and 2 is dropped, as ahead.
	p.Abort()
	wantLooks(t, p, 2, "r", 3)
	want(t, "Drop", p.Drop(2), api.OK)
	commit(t, p, full[1:])
	wantLooks(t, p, 3, full[1:], 4)
	commit(t, p, full)
	wantLooks(t, p, 4, full, 4)
	wantLooks(t, opened(t, d.Crash()), 4, full, 4)
}

func TestCommitOfTheGreatestGen(t *testing.T) {
	d := withRoots(t, 4, make([]byte, api.Sector), rootOf(t, 1<<62-1, "a"))
	p := opened(t, d)
	want(t, "Use", p.Use(2), api.OK)
	commit(t, p, "b")
	want(t, "Drop", p.Drop(2), api.OK)
	steps := d.Steps()
	want(t, "Commit", p.Commit("c"), api.ErrArg)
	want(t, "Commit", p.Commit(strings.Repeat("x", api.RootRoom+1)), api.ErrArg)
	if d.Steps() != steps {
		t.Fatal("a Commit that was refused took a step")
	}
	wantLooks(t, p, 1<<62, "b", 1)
	wantLooks(t, opened(t, d.Crash()), 1<<62, "b", 2)
}

func TestCommitMakesFreshPagesStay(t *testing.T) {
	_, p := formatted(t, 6)
	put(t, p, "a")
	commit(t, p, "")
	p.Abort()
	wantRead(t, p, 2, 7, "a")
	wantLooks(t, p, 2, "", 3)
	want(t, "Drop", p.Drop(2), api.OK)
	wantLooks(t, p, 2, "", 3)
	wantPut(t, p, 3)
}

func TestAbort(t *testing.T) {
	d, p := formatted(t, 8)
	put(t, p, "a")
	put(t, p, "b")
	commit(t, p, "r")
	put(t, p, "c")
	put(t, p, "d")
	want(t, "Drop", p.Drop(2), api.OK)
	want(t, "Drop", p.Drop(4), api.OK)
	steps := d.Steps()
	p.Abort()
	if d.Steps() != steps {
		t.Fatal("Abort took a step")
	}
	wantLooks(t, p, 2, "r", 4)
	wantRead(t, p, 2, 7, "a")
	wantRead(t, p, 3, 7, "b")
	wantNoRead(t, p, 4, api.ErrRange)
	wantNoRead(t, p, 5, api.ErrRange)
	p.Abort()
	wantLooks(t, p, 2, "r", 4)
	commit(t, p, "s")
	wantLooks(t, p, 3, "s", 4)
	wantRead(t, p, 2, 7, "a")
	want(t, "Drop", p.Drop(2), api.OK)
	commit(t, p, "t")
	wantLooks(t, p, 4, "t", 5)
}

func TestAbortLeavesWhatWaits(t *testing.T) {
	_, p := formatted(t, 6)
	put(t, p, "a")
	commit(t, p, "")
	gen := p.Pin()
	want(t, "Drop", p.Drop(2), api.OK)
	commit(t, p, "")
	p.Abort()
	want(t, "Drop of one that waits", p.Drop(2), api.ErrRange)
	want(t, "Unpin", p.Unpin(gen), api.OK)
	wantLooks(t, p, 3, "", 4)
}

// A dead pager

// kill takes the power in a Put.
func kill(t *testing.T, d *disk.Disk, p *pager.Pager) {
	t.Helper()
	d.Fuse(0)
	wantNoPut(t, p, 1, "k", api.ErrPower)
}

// wantDead holds that all that needs power is refused, whatever else is wrong.
func wantDead(t *testing.T, p *pager.Pager) {
	t.Helper()
	gen, root, free := p.Gen(), p.Root(), p.Free()
	long := strings.Repeat("x", api.Sector)
	want(t, "Use()", p.Use(), api.ErrPower)
	for _, n := range []int{-1, 1, 2, 3, 5, 6} {
		want(t, "Use", p.Use(n), api.ErrPower)
		want(t, "Use", p.Use(n, n), api.ErrPower)
		want(t, "Drop", p.Drop(n), api.ErrPower)
		wantNoRead(t, p, n, api.ErrPower)
	}
	wantNoPut(t, p, 1, "x", api.ErrPower)
	wantNoPut(t, p, -1, long, api.ErrPower)
	want(t, "Commit", p.Commit(""), api.ErrPower)
	want(t, "Commit", p.Commit(long), api.ErrPower)
	wantLooks(t, p, gen, root, free)
}

func TestPowerThatGoesInAPut(t *testing.T) {
	d, p := formatted(t, 6)
	put(t, p, "a")
	commit(t, p, "r")
	put(t, p, "b")
	p.Drop(2)
	kill(t, d, p)
	wantLooks(t, p, 2, "r", 2)
	wantDead(t, p)
	p.Abort()
	wantLooks(t, p, 2, "r", 3)
	wantDead(t, p)
}

func TestPowerThatGoesInACommit(t *testing.T) {
	for fuse := range 3 {
		d, p := formatted(t, 6)
		put(t, p, "a")
		commit(t, p, "r")
		put(t, p, "b")
		put(t, p, "c")
		p.Drop(2)
		d.Fuse(fuse)
		want(t, "Commit", p.Commit("s"), api.ErrPower)
		wantLooks(t, p, 2, "r", 1)
		wantDead(t, p)
		p.Abort()
		wantLooks(t, p, 2, "r", 3)
		wantDead(t, p)
	}
}

func TestPowerThatIsFoundGoneInARead(t *testing.T) {
	d, p := formatted(t, 6)
	put(t, p, "a")
	d.Fuse(0)
	wantRead(t, p, 2, 7, "a")
	d.Flush()
	wantNoRead(t, p, 2, api.ErrPower)
	wantDead(t, p)
}

// Till the disk has told the pager so, the pager is not dead; what is wrong with the arguments is told ahead of it.
func TestPowerThatIsGoneUnheard(t *testing.T) {
	d, p := formatted(t, 5)
	put(t, p, "a")
	d.Fuse(0)
	d.Flush()
	want(t, "Use", p.Use(3), api.OK)
	want(t, "Use again", p.Use(3), api.ErrThere)
	wantNoRead(t, p, 4, api.ErrRange)
	want(t, "Drop", p.Drop(4), api.ErrRange)
	wantNoPut(t, p, -1, "x", api.ErrArg)
	want(t, "Use", p.Use(4), api.OK)
	wantNoPut(t, p, 1, "x", api.ErrFull)
	want(t, "Commit", p.Commit(strings.Repeat("x", api.Sector)), api.ErrLong)
	want(t, "Drop", p.Drop(2), api.OK)
	wantLooks(t, p, 1, "", 1)
	want(t, "Commit", p.Commit(""), api.ErrPower)
	wantDead(t, p)
}

func TestPinsOfADeadPager(t *testing.T) {
	d, p := formatted(t, 6)
	put(t, p, "a")
	commit(t, p, "r")
	gen := p.Pin()
	p.Drop(2)
	commit(t, p, "s")
	kill(t, d, p)
	if g := p.Pin(); g != 3 {
		t.Fatalf("Pin = %d", g)
	}
	wantLooks(t, p, 3, "s", 3)
	want(t, "Unpin", p.Unpin(gen), api.OK)
	wantLooks(t, p, 3, "s", 4)
	want(t, "Unpin", p.Unpin(3), api.OK)
	want(t, "Unpin", p.Unpin(3), api.ErrNone)
	wantDead(t, p)
}

// The others on the same disk's kin go on.
func TestDeathIsOnePagersOwn(t *testing.T) {
	d, p := formatted(t, 6)
	q := opened(t, d.Copy())
	kill(t, d, p)
	wantDead(t, p)
	wantPut(t, q, 2)
	commit(t, q, "q")
	wantLooks(t, q, 2, "q", 3)
}

// P3.5

func TestPinsAreCounted(t *testing.T) {
	_, p := formatted(t, 6)
	for _, gen := range []int{math.MinInt, -1, 0, 1, 2, math.MaxInt} {
		want(t, "Unpin of what is not pinned", p.Unpin(gen), api.ErrNone)
	}
	for range 3 {
		if gen := p.Pin(); gen != 1 {
			t.Fatalf("Pin = %d", gen)
		}
	}
	commit(t, p, "")
	want(t, "Unpin(2)", p.Unpin(2), api.ErrNone)
	if gen := p.Pin(); gen != 2 {
		t.Fatalf("Pin = %d", gen)
	}
	for range 3 {
		want(t, "Unpin(1)", p.Unpin(1), api.OK)
	}
	want(t, "Unpin(1)", p.Unpin(1), api.ErrNone)
	want(t, "Unpin(2)", p.Unpin(2), api.OK)
	want(t, "Unpin(2)", p.Unpin(2), api.ErrNone)
	wantLooks(t, p, 2, "", 4)
}

func TestPinsAreOfOnePager(t *testing.T) {
	d, p := formatted(t, 6)
	p.Pin()
	q := opened(t, d)
	want(t, "Unpin", q.Unpin(1), api.ErrNone)
	want(t, "Unpin", p.Unpin(1), api.OK)
}

// P1, P2, rules 3 and 4

// wantNone holds that a pager that no call made does nothing.
func wantNone(t *testing.T, p *pager.Pager) {
	t.Helper()
	want(t, "Use", p.Use(), api.ErrNil)
	want(t, "Use", p.Use(0, 2, 2), api.ErrNil)
	wantNoPut(t, p, 1, "a", api.ErrNil)
	wantNoPut(t, p, -1, strings.Repeat("x", api.Sector), api.ErrNil)
	want(t, "Commit", p.Commit(""), api.ErrNil)
	want(t, "Commit", p.Commit(strings.Repeat("x", api.Sector)), api.ErrNil)
	for _, n := range []int{math.MinInt, -1, 0, 1, 2, math.MaxInt} {
		wantNoRead(t, p, n, api.ErrNil)
		want(t, "Drop", p.Drop(n), api.ErrNil)
		want(t, "Unpin", p.Unpin(n), api.ErrNil)
	}
	p.Abort()
	if gen := p.Pin(); gen != 0 {
		t.Fatalf("Pin = %d", gen)
	}
	want(t, "Unpin", p.Unpin(0), api.ErrNil)
	wantLooks(t, p, 0, "", 0)
}

func TestNilPager(t *testing.T) {
	wantNone(t, nil)
}

func TestPagerOnNoDisk(t *testing.T) {
	wantNone(t, &pager.Pager{})
	wantNone(t, new(pager.Pager))
	p, _ := pager.Open(nil)
	wantNone(t, p)
	p, _ = pager.Open(newDisk(t, 4))
	wantNone(t, p)
	// A disk that no call made has no sectors.
	want(t, "Format", pager.Format(&disk.Disk{}), api.ErrArg)
	if p, e := pager.Open(&disk.Disk{}); p != nil || e != api.ErrArg {
		t.Fatalf("Open = %v, %v", p, e)
	}
}

func TestRefusedCallsChangeNothing(t *testing.T) {
	d, p := formatted(t, 8)
	put(t, p, "a")
	put(t, p, "b")
	commit(t, p, "r")
	p.Pin()
	put(t, p, "c")
	p.Drop(2)
	before, steps := d.Copy(), d.Steps()
	p.Use(7, 6, 2)
	p.Use(5, 8)
	p.Put(256, "")
	p.Put(0, strings.Repeat("x", api.Room+1))
	p.Read(1)
	p.Read(7)
	p.Drop(2)
	p.Drop(7)
	p.Drop(8)
	p.Commit(strings.Repeat("x", api.RootRoom+1))
	p.Unpin(1)
	p.Unpin(3)
	if d.Steps() != steps || d.Waiting() != before.Waiting() {
		t.Fatal("a refused call took a step")
	}
	for at := range 8 {
		b, _ := before.Read(at)
		wantSector(t, d, at, b)
	}
	wantLooks(t, p, 2, "r", 3)
	wantRead(t, p, 2, 7, "a")
	wantRead(t, p, 3, 7, "b")
	wantRead(t, p, 4, 7, "c")
	want(t, "Unpin", p.Unpin(2), api.OK)
	p.Abort()
	wantLooks(t, p, 2, "r", 4)
	wantPut(t, p, 4)
}
