package btree_test

import (
	"maps"
	"math/rand"
	"slices"
	"strconv"
	"testing"

	"haversack/api"
	"haversack/btree"
	"haversack/disk"
	"haversack/pager"
)

// play is a tree, and what is in it, kept apart from it in a map.
type play struct {
	d     *disk.Disk
	p     *pager.Pager
	b     *btree.Tree
	r     *rand.Rand
	keys  []string
	holds map[string]string
}

// newPlay has keys of a kind by its seed: short ones, long ones, or both.
func newPlay(t *testing.T, seed int64, sectors, keys int) *play {
	t.Helper()
	s := &play{r: rand.New(rand.NewSource(seed)), holds: map[string]string{}}
	s.d, s.p, s.b = planted(t, sectors)
	for i := range keys {
		s.keys = append(s.keys, s.newKey(int(seed), i))
	}
	return s
}

func (s *play) newKey(kind, i int) string {
	key := strconv.Itoa(i)
	switch kind % 4 {
	case 0:
		return key
	case 1:
		return long(api.MaxKey-len(key)) + key
	case 2:
		return key + long(s.r.Intn(api.MaxKey+1-len(key)))
	}
	if s.r.Intn(3) == 0 {
		return key + long(api.MaxKey-len(key))
	}
	return key
}

func (s *play) key() string { return s.keys[s.r.Intn(len(s.keys))] }

func (s *play) value() string {
	switch s.r.Intn(12) {
	case 0:
		return text(s.r.Intn(3000))
	case 1:
		return text(s.r.Intn(4) * linkRoom)
	case 2, 3, 4:
		return text(api.MaxInline)
	case 5, 6, 7:
		return ""
	}
	return text(s.r.Intn(api.MaxInline + 2))
}

func list(holds map[string]string) []api.Pair {
	var l []api.Pair
	for _, k := range slices.Sorted(maps.Keys(holds)) {
		l = append(l, api.Pair{Key: k, Value: holds[k]})
	}
	return l
}

// change puts or deletes, the one more often than the other; what it answered.
func (s *play) change(t *testing.T, puts bool) api.Errno {
	t.Helper()
	if (s.r.Intn(5) > 0) == puts {
		key, value := s.key(), s.value()
		e := s.b.Put(key, value)
		if e == api.OK {
			s.holds[key] = value
		}
		return e
	}
	keys := []string{s.key(), s.key()}[:1+s.r.Intn(2)]
	count, e := s.b.Delete(keys...)
	gone := 0
	for _, k := range keys {
		if _, is := s.holds[k]; is && (e == api.OK || gone < count) {
			delete(s.holds, k)
			gone++
		}
	}
	if gone != count {
		t.Fatalf("Delete(%q) = %d, %v; want %d", keys, count, e, gone)
	}
	return e
}

// wantTold holds that the tree tells what the list tells.
func (s *play) wantTold(t *testing.T) {
	t.Helper()
	key := s.key()
	if value, is := s.holds[key]; is {
		wantGet(t, s.b, key, value)
	} else {
		wantNoGet(t, s.b, key, api.OK)
	}
	from, to, most := s.key(), s.key(), s.r.Intn(30)
	wantRange(t, s.b, from, to, most, cutOut(list(s.holds), from, to, most))
	wantRange(t, s.b, from, "", most, cutOut(list(s.holds), from, "", most))
}

// P5.5, P5.6

func TestATreeIsAListAndSound(t *testing.T) {
	for seed := range int64(12) {
		s := newPlay(t, seed, 2500, 60*(1+int(seed)%5))
		for phase := range 4 {
			for range 200 {
				if e := s.change(t, phase%2 == 0); e != api.OK {
					t.Fatalf("a change with %d free pages = %v", s.p.Free(), e)
				}
				s.wantTold(t)
				want(t, "Check", s.b.Check(), api.OK)
			}
			wantTree(t, s.p, s.b, list(s.holds), 0)
		}
		for _, k := range slices.Collect(maps.Keys(s.holds)) {
			wantDelete(t, s.b, 1, api.OK, k)
			delete(s.holds, k)
			if len(s.holds)%8 == 0 {
				wantTree(t, s.p, s.b, list(s.holds), 0)
			}
		}
		wantLooks(t, s.b, 0, 0, api.OK)
	}
}

// Commits, aborts, crashes and Opens between.
func TestATreeBetweenCommits(t *testing.T) {
	for seed := range int64(12) {
		s := newPlay(t, seed, 1500, 80)
		kept, root := maps.Clone(s.holds), 0
		for range 60 {
			for range s.r.Intn(12) {
				want(t, "a change", s.change(t, s.r.Intn(3) > 0), api.OK)
			}
			switch s.r.Intn(4) {
			case 0, 1:
				want(t, "Commit", s.p.Commit(strconv.Itoa(s.b.Root())), api.OK)
				kept, root = maps.Clone(s.holds), s.b.Root()
				wantTree(t, s.p, s.b, list(kept), 0)
			case 2:
				s.p.Abort()
				s.b, s.holds = btree.At(s.p, root), maps.Clone(kept)
				wantTree(t, s.p, s.b, list(kept), 0)
			default:
				s.d = s.d.Crash()
				s.p = opened(t, s.d)
				b, e := btree.Open(s.p, root)
				want(t, "Open", e, api.OK)
				s.b, s.holds = b, maps.Clone(kept)
				wantTree(t, s.p, s.b, list(kept), 0)
			}
		}
	}
}

// P5.7

// old is a tree of a gen that is pinned, and what it told then.
type old struct {
	gen int
	b   *btree.Tree
	l   []api.Pair
}

func TestTreesOfPinnedGens(t *testing.T) {
	for seed := range int64(8) {
		s := newPlay(t, seed, 4000, 80)
		var olds []old
		for i := range 120 {
			for range s.r.Intn(8) {
				want(t, "a change", s.change(t, i%40 < 25), api.OK)
			}
			want(t, "Commit", s.p.Commit(""), api.OK)
			olds = append(olds, old{s.p.Pin(), btree.At(s.p, s.b.Root()), list(s.holds)})
			for len(olds) > 6 || len(olds) > 0 && s.r.Intn(5) == 0 {
				at := s.r.Intn(len(olds))
				want(t, "Unpin", s.p.Unpin(olds[at].gen), api.OK)
				olds = slices.Delete(olds, at, at+1)
			}
			for _, o := range olds {
				wantRange(t, o.b, "", "", api.MaxPairs, o.l)
				want(t, "Check", o.b.Check(), api.OK)
				for _, k := range o.l[:min(len(o.l), 3)] {
					wantGet(t, o.b, k.Key, k.Value)
				}
			}
		}
		for _, o := range olds {
			want(t, "Unpin", s.p.Unpin(o.gen), api.OK)
		}
		wantTree(t, s.p, s.b, list(s.holds), 0)
	}
}

// P5.8

// room is how many free pages are enough for a Put.
func room(b *btree.Tree, value string) int {
	pages := 2*b.Depth() + 3
	if len(value) > api.MaxInline {
		pages += (len(value) + linkRoom - 1) / linkRoom
	}
	return pages
}

func TestPutsWithJustEnoughRoom(t *testing.T) {
	for seed := range int64(12) {
		s := newPlay(t, seed, 800, 250)
		for i := range 900 {
			key, value := s.key(), s.value()
			if i%300 > 200 {
				wantDelete(t, s.b, min(1, countOf(s.holds, key)), api.OK, key)
				delete(s.holds, key)
				want(t, "Commit", s.p.Commit(""), api.OK)
				continue
			}
			fillers := s.fill(t, room(s.b, value))
			if e := s.b.Put(key, value); e != api.OK {
				t.Fatalf("Put with just enough room = %v", e)
			}
			s.holds[key] = value
			for _, page := range fillers {
				want(t, "Drop", s.p.Drop(page), api.OK)
			}
			want(t, "Commit", s.p.Commit(""), api.OK)
			if i%20 == 0 {
				wantTree(t, s.p, s.b, list(s.holds), 0)
			}
		}
		wantTree(t, s.p, s.b, list(s.holds), 0)
	}
}

func countOf(holds map[string]string, key string) int {
	if _, is := holds[key]; is {
		return 1
	}
	return 0
}

// fill takes free pages till so many are left: which ones.
func (s *play) fill(t *testing.T, left int) []int {
	t.Helper()
	var l []int
	free := s.p.Free()
	for page := 2; free > left; page++ {
		if s.p.Use(page) == api.OK {
			l = append(l, page)
			free--
		}
	}
	return l
}

// On a small disk a tree runs full, and is as ahead each time.
func TestATreeOnAFullDisk(t *testing.T) {
	for seed := range int64(12) {
		s := newPlay(t, seed, 10+2*int(seed), 200)
		refused := 0
		for i := range 500 {
			root, free, was := s.b.Root(), s.p.Free(), maps.Clone(s.holds)
			switch e := s.change(t, i%150 < 110); e {
			case api.OK:
			case api.ErrFull:
				refused++
				if maps.Equal(was, s.holds) && (s.b.Root() != root || s.p.Free() != free) {
					t.Fatal("a change that was refused changed something")
				}
			default:
				t.Fatalf("a change = %v", e)
			}
			wantTree(t, s.p, s.b, list(s.holds), 0)
		}
		if refused == 0 {
			t.Fatal("the disk was never full")
		}
	}
}
