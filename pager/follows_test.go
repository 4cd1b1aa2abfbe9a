package pager_test

import (
	"bytes"
	"maps"
	"slices"
	"strconv"
	"testing"

	"haversack/api"
	"haversack/disk"
	"haversack/pager"
)

// view is what a root makes count: its gen and content, and what its pages hold.
type view struct {
	gen   int
	root  string
	pages map[int]string
}

// wantView holds that a pager that was just opened tells of one of these views, and has its pages; which one it was.
func wantView(t *testing.T, p *pager.Pager, views ...view) view {
	t.Helper()
	for _, v := range views {
		if p.Gen() != v.gen || p.Root() != v.root {
			continue
		}
		l := slices.Sorted(maps.Keys(v.pages))
		want(t, "Use", p.Use(l...), api.OK)
		for _, n := range l {
			wantRead(t, p, n, 7, v.pages[n])
		}
		return v
	}
	t.Fatalf("Open has the gen %d and %q; want one of %v", p.Gen(), p.Root(), views)
	return view{}
}

// P3.6

// cuts are how many bytes of a write a crash keeps: none, all, and what tears a gen, a length, a content or the gen behind it.
var cuts = []int{0, 1, 7, 8, 9, 10, 11, 20, 100, 503, 504, 505, 511, api.Sector}

// eachCrash does a crash for all that may be kept of the writes that wait: each of them cut anywhere, those of a list alone or the other way round.
func eachCrash(d *disk.Disk, look func(c *disk.Disk)) {
	var kept []api.Keep
	var from func(w int)
	from = func(w int) {
		if w == d.Waiting() {
			look(d.Crash(kept...))
			turned := slices.Clone(kept)
			slices.Reverse(turned)
			look(d.Crash(turned...))
			return
		}
		for _, n := range cuts {
			kept = append(kept, api.Keep{Write: w, Bytes: n})
			from(w + 1)
			kept = kept[:len(kept)-1]
		}
	}
	from(0)
}

// scene is a pager behind some commits, and what counts there: with more of them the next root's sector has held no root, an older one, and an older one whose pages are free.
func scene(t *testing.T, commits int) (*disk.Disk, *pager.Pager, view) {
	t.Helper()
	d, p := formatted(t, 8)
	v := view{1, "", map[int]string{}}
	for i := range commits {
		if i == 0 {
			for _, c := range []string{"a", "b", "c"} {
				v.pages[put(t, p, c)] = c
			}
		}
		if i == 1 {
			want(t, "Drop", p.Drop(2), api.OK)
			delete(v.pages, 2)
		}
		v.gen, v.root = v.gen+1, "root"+strconv.Itoa(i)
		commit(t, p, v.root)
	}
	return d, p, v
}

// change drops a page of a scene, if it has some, and puts others; what counts behind that.
func change(p *pager.Pager, ahead view) view {
	behind := view{ahead.gen + 1, "behind", maps.Clone(ahead.pages)}
	if p.Drop(3) == api.OK {
		delete(behind.pages, 3)
	}
	for _, c := range []string{"x", "y"} {
		if n, e := p.Put(7, c); e == api.OK {
			behind.pages[n] = c
		}
	}
	return behind
}

func TestPowerThatGoesAtEachStep(t *testing.T) {
	const steps = 2 + 3 // of two Puts and a Commit
	for commits := range 5 {
		for fuse := range steps + 3 {
			d, p, ahead := scene(t, commits)
			d.Fuse(fuse)
			behind := change(p, ahead)
			e, may := p.Commit("behind"), []view{ahead, behind}
			switch {
			case fuse >= steps:
				want(t, "Commit", e, api.OK)
				may = []view{behind}
				// These come over what was dropped.
				p.Put(7, "later")
				p.Put(7, "later")
			case fuse < steps-1: // the root was not written yet
				want(t, "Commit", e, api.ErrPower)
				may = []view{ahead}
			default:
				want(t, "Commit", e, api.ErrPower)
			}
			eachCrash(d, func(c *disk.Disk) { wantView(t, opened(t, c), may...) })
		}
	}
}

// Of a root that is torn anywhere the one ahead of it counts, but where the bytes that are lost were there already.
func TestRootThatIsTornAnywhere(t *testing.T) {
	for commits := range 5 {
		d, p, ahead := scene(t, commits)
		behind := change(p, ahead)
		d.Fuse(2)
		want(t, "Commit", p.Commit("behind"), api.ErrPower)
		whole, _ := d.Crash(api.Keep{Write: 0, Bytes: api.Sector}).Read(behind.gen % 2)
		for cut := range api.Sector + 1 {
			c := d.Crash(api.Keep{Write: 0, Bytes: cut})
			b, _ := c.Read(behind.gen % 2)
			if bytes.Equal(b, whole) {
				wantView(t, opened(t, c), behind)
			} else {
				wantView(t, opened(t, c), ahead)
			}
		}
	}
}

// What is free behind a commit may be written over at once: what counts does not lie there.
func TestWhatIsPutLiesBesideWhatCounts(t *testing.T) {
	d, p := formatted(t, 6)
	a, b := put(t, p, "a"), put(t, p, "b")
	commit(t, p, "r")
	want(t, "Drop", p.Drop(a), api.OK)
	for p.Free() > 0 {
		put(t, p, "x")
	}
	eachCrash(d, func(c *disk.Disk) {
		wantView(t, opened(t, c), view{2, "r", map[int]string{a: "a", b: "b"}})
	})
	p.Abort()
	want(t, "Drop", p.Drop(a), api.OK)
	commit(t, p, "s")
	for p.Free() > 0 {
		put(t, p, "y")
	}
	eachCrash(d, func(c *disk.Disk) {
		wantView(t, opened(t, c), view{3, "s", map[int]string{b: "b"}})
	})
}

// P3.7

func TestPageThatIsDroppedWhileAGenIsPinned(t *testing.T) {
	_, p := formatted(t, 5)
	a := put(t, p, "a")
	commit(t, p, "")
	gen := p.Pin()
	if p.Pin() != gen {
		t.Fatal("a gen that is pinned twice is another one")
	}
	want(t, "Drop", p.Drop(a), api.OK)
	for i := range 5 {
		commit(t, p, "")
		wantRead(t, p, a, 7, "a")
		wantLooks(t, p, 3+i, "", 2)
	}
	for p.Free() > 0 {
		put(t, p, "x")
	}
	wantNoPut(t, p, 7, "x", api.ErrFull)
	want(t, "Unpin", p.Unpin(gen), api.OK)
	wantRead(t, p, a, 7, "a")
	wantNoPut(t, p, 7, "x", api.ErrFull)
	want(t, "Unpin", p.Unpin(gen), api.OK)
	wantNoRead(t, p, a, api.ErrRange)
	wantPut(t, p, a)
}

// A pin at the gen for which a page waits, or above, does not hold it.
func TestPinsThatHoldNothing(t *testing.T) {
	_, p := formatted(t, 6)
	a, b := put(t, p, "a"), put(t, p, "b")
	commit(t, p, "") // gen 2
	want(t, "Drop", p.Drop(a), api.OK)
	commit(t, p, "") // gen 3
	wantLooks(t, p, 3, "", 3)
	p.Pin()
	wantLooks(t, p, 3, "", 3)
	want(t, "Drop", p.Drop(b), api.OK)
	commit(t, p, "") // gen 4, for which b waits
	wantLooks(t, p, 4, "", 3)
	p.Pin()
	want(t, "Unpin", p.Unpin(3), api.OK)
	wantLooks(t, p, 4, "", 4)
}

// Each page waits for a gen of its own, and for the lowest pin.
func TestPinsOfSeveralGens(t *testing.T) {
	for _, order := range [][]int{{2, 3, 4}, {4, 3, 2}, {3, 2, 4}, {2, 4, 3}, {3, 4, 2}, {4, 2, 3}} {
		_, p := formatted(t, 8)
		l := []int{put(t, p, "a"), put(t, p, "b"), put(t, p, "c")}
		for _, n := range l {
			commit(t, p, "")
			p.Pin()
			want(t, "Drop", p.Drop(n), api.OK)
		}
		commit(t, p, "")
		wantLooks(t, p, 5, "", 3)
		// The first page waits for 3, the next one for 4, the last one for 5.
		pinned := []int{2, 3, 4}
		for _, gen := range order {
			want(t, "Unpin", p.Unpin(gen), api.OK)
			pinned = slices.DeleteFunc(pinned, func(g int) bool { return g == gen })
			for i, n := range l {
				if len(pinned) > 0 && slices.Min(pinned) < 3+i {
					wantRead(t, p, n, 7, string(rune('a'+i)))
				} else {
					wantNoRead(t, p, n, api.ErrRange)
				}
			}
		}
		wantLooks(t, p, 5, "", 6)
	}
}

// A page that is dropped ahead of the Pin counts by the gen that is pinned, too.
func TestPageThatIsDroppedAheadOfThePin(t *testing.T) {
	_, p := formatted(t, 5)
	a := put(t, p, "a")
	commit(t, p, "")
	want(t, "Drop", p.Drop(a), api.OK)
	gen := p.Pin()
	commit(t, p, "")
	wantRead(t, p, a, 7, "a")
	want(t, "Unpin", p.Unpin(gen), api.OK)
	wantNoRead(t, p, a, api.ErrRange)
}

// An Unpin behind a Drop that is not committed frees nothing.
func TestUnpinAheadOfTheCommit(t *testing.T) {
	_, p := formatted(t, 5)
	a := put(t, p, "a")
	commit(t, p, "")
	gen := p.Pin()
	want(t, "Drop", p.Drop(a), api.OK)
	want(t, "Unpin", p.Unpin(gen), api.OK)
	wantRead(t, p, a, 7, "a")
	wantLooks(t, p, 2, "", 2)
	commit(t, p, "")
	wantLooks(t, p, 3, "", 3)
}

// P3.8

func TestAllPagesMayBeUsed(t *testing.T) {
	for _, n := range []int{4, 5, 100, api.MaxSectors} {
		_, p := formatted(t, n)
		for i := 2; i < n; i++ {
			wantLooks(t, p, 1, "", n-i)
			wantPut(t, p, i)
		}
		wantFull(t, p, 1)
		commit(t, p, "")
		wantFull(t, p, 2)
		for i := 2; i < n; i++ {
			want(t, "Drop", p.Drop(i), api.OK)
		}
		wantFull(t, p, 2)
		p.Pin()
		commit(t, p, "")
		wantFull(t, p, 3)
		want(t, "Unpin", p.Unpin(2), api.OK)
		for i := 2; i < n; i++ {
			wantLooks(t, p, 3, "", n-i)
			wantPut(t, p, i)
		}
		wantFull(t, p, 3)
		want(t, "Drop", p.Drop(n-1), api.OK)
		wantLooks(t, p, 3, "", 1)
		wantPut(t, p, n-1)
		wantFull(t, p, 3)
		p.Abort()
		wantLooks(t, p, 3, "", n-2)
	}
}

func wantFull(t *testing.T, p *pager.Pager, gen int) {
	t.Helper()
	wantNoPut(t, p, 7, "x", api.ErrFull)
	wantLooks(t, p, gen, "", 0)
}
