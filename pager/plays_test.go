package pager_test

import (
	"maps"
	"math/rand"
	"strconv"
	"testing"

	"haversack/api"
	"haversack/disk"
	"haversack/page"
	"haversack/pager"
)

// seeds is how many plays are done: the same ones each time.
const seeds = 400

// play is a pager, and all that was ever done with it, kept apart from it in the plainest way: what each page's sector holds, if it is a page, and which pages are what.
type play struct {
	p       *pager.Pager
	d       *disk.Disk
	r       *rand.Rand
	size    int
	counter int

	gen     int
	root    string
	holds   map[int]string
	used    map[int]bool // all that are, whatever else they are
	fresh   map[int]bool
	dropped map[int]bool
	waits   map[int]int
	pins    map[int]int

	pinned map[int]map[int]string // what each pinned gen's pages held
	last   view                   // what the last commit made count
	next   []view                 // what the commit may have, in which the power went
	fuse   int
	gone   bool
	dead   bool
}

func newPlay(t *testing.T, seed int64) *play {
	r := rand.New(rand.NewSource(seed))
	s := &play{r: r, size: 4 + r.Intn(6)}
	s.d, s.p = formatted(t, s.size)
	s.begin(view{1, "", map[int]string{}})
	return s
}

// begin is behind an Open, with the pages of a view used.
func (s *play) begin(v view) {
	s.gen, s.root, s.last, s.next = v.gen, v.root, v, nil
	s.used, s.fresh, s.dropped = map[int]bool{}, map[int]bool{}, map[int]bool{}
	s.waits, s.pins, s.pinned = map[int]int{}, map[int]int{}, map[int]map[int]string{}
	s.fuse, s.gone, s.dead = -1, false, false
	for n := range v.pages {
		s.used[n] = true
	}
	s.holds = map[int]string{}
	for n := 2; n < s.size; n++ {
		b, _ := s.d.Read(n)
		if _, _, content, e := page.Open(b); e == api.OK {
			s.holds[n] = content
		}
	}
}

func (s *play) free() int {
	return s.size - 2 - len(s.used)
}

func (s *play) isPage(n int) bool {
	return n >= 2 && n < s.size
}

// settle frees what waits with no pin below.
func (s *play) settle() {
	for n, gen := range s.waits {
		held := false
		for pin := range s.pins {
			held = held || pin < gen
		}
		if !held {
			delete(s.waits, n)
			delete(s.used, n)
		}
	}
}

// power tells of a step that comes whether it is done.
func (s *play) power() bool {
	if s.gone || s.fuse == 0 {
		s.gone, s.dead = true, true
		return false
	}
	s.fuse--
	return true
}

// counting is what the pages hold that are used and do not wait, but for those of some lists.
func (s *play) counting(without ...map[int]bool) map[int]string {
	pages := map[int]string{}
	for n := range s.used {
		out := s.waits[n] > 0
		for _, w := range without {
			out = out || w[n]
		}
		if !out {
			pages[n] = s.holds[n]
		}
	}
	return pages
}

func (s *play) text() string {
	s.counter++
	return strconv.Itoa(s.counter)
}

func (s *play) number() int {
	return s.r.Intn(s.size+2) - 1
}

func (s *play) put(t *testing.T) {
	content, lowest := s.text(), 0
	for n := s.size - 1; n >= 2; n-- {
		if !s.used[n] {
			lowest = n
		}
	}
	wanted := api.OK
	switch {
	case s.dead:
		wanted = api.ErrPower
	case lowest == 0:
		wanted = api.ErrFull
	case !s.power():
		wanted = api.ErrPower
	default:
		s.used[lowest], s.fresh[lowest], s.holds[lowest] = true, true, content
	}
	if wanted != api.OK {
		lowest = 0
	}
	if n, e := s.p.Put(7, content); n != lowest || e != wanted {
		t.Fatalf("Put = %d, %v; want %d, %v", n, e, lowest, wanted)
	}
}

func (s *play) drop(t *testing.T) {
	n, wanted := s.number(), api.OK
	switch {
	case s.dead:
		wanted = api.ErrPower
	case !s.used[n] || s.dropped[n] || s.waits[n] > 0:
		wanted = api.ErrRange
	case s.fresh[n]:
		delete(s.fresh, n)
		delete(s.used, n)
	default:
		s.dropped[n] = true
	}
	want(t, "Drop", s.p.Drop(n), wanted)
}

func (s *play) use(t *testing.T) {
	l, wanted, seen := make([]int, s.r.Intn(4)), api.OK, map[int]bool{}
	for i := range l {
		l[i] = s.number()
		switch n := l[i]; {
		case wanted != api.OK:
		case !s.isPage(n):
			wanted = api.ErrRange
		case s.used[n] || seen[n]:
			wanted = api.ErrThere
		}
		seen[l[i]] = true
	}
	if s.dead {
		wanted = api.ErrPower
	}
	if wanted == api.OK {
		maps.Copy(s.used, seen)
	}
	want(t, "Use", s.p.Use(l...), wanted)
}

func (s *play) commit(t *testing.T) {
	content, wanted := s.text(), api.OK
	behind := view{s.gen + 1, content, s.counting(s.dropped)}
	switch {
	case s.dead:
		wanted = api.ErrPower
	case !s.power() || !s.power() || !s.power():
		s.next = []view{behind}
		wanted = api.ErrPower
	default:
		s.gen, s.root, s.last = behind.gen, content, behind
		for n := range s.dropped {
			s.waits[n] = s.gen
		}
		clear(s.fresh)
		clear(s.dropped)
		s.settle()
	}
	want(t, "Commit", s.p.Commit(content), wanted)
}

func (s *play) abort() {
	for n := range s.fresh {
		delete(s.used, n)
	}
	clear(s.fresh)
	clear(s.dropped)
	s.p.Abort()
}

func (s *play) pin(t *testing.T) {
	s.pins[s.gen]++
	s.pinned[s.gen] = s.counting(s.fresh)
	if gen := s.p.Pin(); gen != s.gen {
		t.Fatalf("Pin = %d; want %d", gen, s.gen)
	}
}

func (s *play) unpin(t *testing.T) {
	gen, wanted := s.gen-s.r.Intn(6)+1, api.OK
	if s.pins[gen] == 0 {
		wanted = api.ErrNone
	} else if s.pins[gen]--; s.pins[gen] == 0 {
		delete(s.pins, gen)
		delete(s.pinned, gen)
		s.settle()
	}
	want(t, "Unpin", s.p.Unpin(gen), wanted)
}

// crash keeps some of what waits, and opens a pager on what comes of it.
func (s *play) crash(t *testing.T) {
	var kept []api.Keep
	for w := range s.d.Waiting() {
		switch s.r.Intn(4) {
		case 0:
			kept = append(kept, api.Keep{Write: w, Bytes: s.r.Intn(api.Sector + 1)})
		case 1, 2:
			kept = append(kept, api.Keep{Write: w, Bytes: api.Sector})
		}
	}
	s.r.Shuffle(len(kept), func(i, k int) { kept[i], kept[k] = kept[k], kept[i] })
	s.d = s.d.Crash(kept...)
	s.p = opened(t, s.d)
	wantLooks(t, s.p, s.p.Gen(), s.p.Root(), s.size-2)
	s.begin(s.wantHeld(t, append(s.next, s.last)))
}

// wantHeld is wantView, but for pages that were told to be used while their sectors held none.
func (s *play) wantHeld(t *testing.T, views []view) view {
	for _, v := range views {
		for n, c := range v.pages {
			if c == "" {
				delete(v.pages, n)
			}
		}
	}
	return wantView(t, s.p, views...)
}

func (s *play) step(t *testing.T) {
	switch k := s.r.Intn(100); {
	case s.dead && k%4 == 0:
		s.crash(t)
	case k < 30:
		s.put(t)
	case k < 48:
		s.drop(t)
	case k < 53:
		s.use(t)
	case k < 70:
		s.commit(t)
	case k < 74:
		s.abort()
	case k < 82:
		s.pin(t)
	case k < 94:
		s.unpin(t)
	case k < 97:
		s.fuse = s.r.Intn(8)
		s.d.Fuse(s.fuse)
	default:
		s.crash(t)
	}
}

// look holds all that can be told against what was done.
func (s *play) look(t *testing.T) {
	wantLooks(t, s.p, s.gen, s.root, s.free())
	for n := -1; n < s.size+1; n++ {
		content, whole := s.holds[n]
		switch {
		case s.dead:
			wantNoRead(t, s.p, n, api.ErrPower)
		case !s.used[n]:
			wantNoRead(t, s.p, n, api.ErrRange)
		case !whole:
			wantNoRead(t, s.p, n, api.ErrBroken)
		default:
			wantRead(t, s.p, n, 7, content)
		}
	}
	for _, pages := range s.pinned {
		for n, content := range pages {
			if !s.dead && content != "" {
				wantRead(t, s.p, n, 7, content)
			}
		}
	}
}

// All promises together, in turns that nobody chose.
func TestPlaysGoAsDocumented(t *testing.T) {
	for seed := range int64(seeds) {
		s := newPlay(t, seed)
		for range 150 {
			s.step(t)
			s.look(t)
		}
	}
}

// Two pagers that are told the same answer the same, whatever order a map is gone through in.
func TestTheSameAgain(t *testing.T) {
	tell := func() string {
		_, p := formatted(t, 60)
		told := ""
		r := rand.New(rand.NewSource(7))
		for range 2000 {
			switch r.Intn(5) {
			case 0, 1:
				n, e := p.Put(1, "x")
				told += strconv.Itoa(n) + " " + e.Error() + ", "
			case 2:
				told += p.Drop(2+r.Intn(58)).Error() + ", "
			case 3:
				told += p.Commit("").Error() + ", "
				p.Pin()
			case 4:
				told += p.Unpin(p.Gen()-r.Intn(8)).Error() + ", "
			}
			told += strconv.Itoa(p.Free()) + "; "
		}
		return told
	}
	first := tell()
	for range 5 {
		if tell() != first {
			t.Fatal("another time it tells another thing")
		}
	}
}
