package txn_test

import (
	"maps"
	"math/rand"
	"slices"
	"strconv"
	"testing"

	"haversack/api"
	"haversack/disk"
	"haversack/txn"
)

// A model of the chapter's words: pairs, snapshots and writes are maps, what was read is what it tells.

// wrote is a write: a value, or that the key is deleted.
type wrote struct {
	value string
	there bool
}

// reading is a read: of a range, or of one key (of which a range of one tells as much), and what was told.
type reading struct {
	from, to string
	most     int
	one      bool
	told     []api.Pair
}

// deed is something that a transaction did: it read, or it wrote.
type deed struct {
	read  *reading
	key   string
	wrote wrote
}

// player is a transaction, and what the model has of it.
type player struct {
	x        *txn.Tx
	snapshot map[string]string
	writes   map[string]wrote
	deeds    []deed
	firm     bool
}

func laidOver(holds map[string]string, writes map[string]wrote) map[string]string {
	all := maps.Clone(holds)
	for k, w := range writes {
		delete(all, k)
		if w.there {
			all[k] = w.value
		}
	}
	return all
}

func (p *player) sees() map[string]string { return laidOver(p.snapshot, p.writes) }

// read does a read, and holds that it tells what the model has.
func (p *player) read(t *testing.T, r reading) {
	t.Helper()
	sees := p.sees()
	if r.one {
		value, is := sees[r.from]
		if is {
			wantGet(t, p.x, r.from, value)
			r.told = list(r.from, value)
		} else {
			wantNoGet(t, p.x, r.from, api.OK)
		}
	} else {
		r.told = cutOut(listOf(sees), r.from, r.to, r.most)
		wantRange(t, p.x, r.from, r.to, r.most, r.told)
	}
	_, own := p.writes[r.from]
	if r.one && own {
		return // that is no read of the snapshot
	}
	p.deeds = append(p.deeds, deed{read: &r})
}

func (p *player) write(key string, w wrote) {
	p.writes[key] = w
	p.deeds = append(p.deeds, deed{key: key, wrote: w})
}

// has tells whether a read is about a key, as P6.3 has it.
func (r *reading) has(key string) bool {
	if r.one {
		return key == r.from
	}
	if key < r.from || r.to != "" && key >= r.to || r.most < 1 {
		return false
	}
	return len(r.told) < r.most || key <= r.told[len(r.told)-1].Key
}

// clash tells whether pairs are others than the snapshot's where something was read.
func (p *player) clash(holds map[string]string) bool {
	keys := slices.Concat(slices.Collect(maps.Keys(holds)), slices.Collect(maps.Keys(p.snapshot)))
	for _, d := range p.deeds {
		for _, k := range keys {
			a, isA := holds[k]
			b, isB := p.snapshot[k]
			if d.read != nil && d.read.has(k) && (a != b || isA != isB) {
				return true
			}
		}
	}
	return false
}

// again does it anew on pairs, as whole, and holds that it reads what it read.
func (p *player) again(t *testing.T, holds map[string]string) map[string]string {
	t.Helper()
	writes := map[string]wrote{}
	for _, d := range p.deeds {
		if d.read == nil {
			writes[d.key] = d.wrote
			continue
		}
		l := listOf(laidOver(holds, writes))
		told := cutOut(l, d.read.from, d.read.to, d.read.most)
		if d.read.one {
			told = cutOut(l, d.read.from, d.read.from+"\x00", 1)
		}
		if !slices.Equal(told, d.read.told) {
			t.Fatalf("done one behind the other, a transaction reads %q from %q on; it read %q", short(told), d.read.from, short(d.read.told))
		}
	}
	return laidOver(holds, writes)
}

// play is a store and several transactions at one time.
type play struct {
	d       *disk.Disk
	s       *txn.Store
	r       *rand.Rand
	keys    []string
	holds   map[string]string
	players []*player
	order   []*player // those that were committed, with writes
}

func newPlay(t *testing.T, seed int64, sectors, keys int) *play {
	t.Helper()
	y := &play{r: rand.New(rand.NewSource(seed)), holds: map[string]string{}, keys: []string{"", "\x00", "1\x00", "1\x00\x00"}}
	y.d, y.s = stocked(t, sectors)
	for i := range keys {
		y.keys = append(y.keys, strconv.Itoa(i)+long(y.r.Intn(3)*28))
	}
	return y
}

func (y *play) key() string { return y.keys[y.r.Intn(len(y.keys))] }

func (y *play) value() string {
	if y.r.Intn(8) == 0 {
		return long(y.r.Intn(1500))
	}
	return strconv.Itoa(y.r.Intn(3)) // few, so that now and then the same comes back
}

func (y *play) begin() {
	y.players = append(y.players, &player{x: y.s.Begin(), snapshot: maps.Clone(y.holds), writes: map[string]wrote{}})
}

// turn does something with one of the transactions.
func (y *play) turn(t *testing.T, p *player) {
	t.Helper()
	switch y.r.Intn(8) {
	case 0, 1:
		p.read(t, reading{from: y.key(), one: true})
	case 2, 3:
		r := reading{from: y.key(), to: y.key(), most: y.r.Intn(6) - 1}
		if y.r.Intn(3) == 0 {
			r.to = ""
		}
		p.read(t, r)
	case 4, 5:
		key, value := y.key(), y.value()
		want(t, "Put", p.x.Put(key, value), api.OK)
		p.write(key, wrote{value, true})
	case 6:
		keys := []string{y.key(), y.key(), y.key()}[:y.r.Intn(4)]
		want(t, "Delete", p.x.Delete(keys...), api.OK)
		for _, k := range keys {
			p.write(k, wrote{})
		}
	default:
		if y.r.Intn(4) == 0 {
			p.x.Firm()
			p.firm = true
		}
		want(t, "Put", p.x.Put(long(61), ""), api.ErrArg)
		want(t, "Delete", p.x.Delete(y.key(), long(61)), api.ErrArg)
	}
}

// again holds that each transaction reads the same again.
func (y *play) again(t *testing.T) {
	t.Helper()
	for _, p := range y.players {
		sees := p.sees()
		for _, d := range p.deeds {
			if d.read != nil && d.read.one {
				if value, is := sees[d.read.from]; is {
					wantGet(t, p.x, d.read.from, value)
				} else {
					wantNoGet(t, p.x, d.read.from, api.OK)
				}
			}
		}
	}
}

// end ends one of them, and holds that it is answered what the model has.
func (y *play) end(t *testing.T, at int) {
	t.Helper()
	p := y.players[at]
	y.players = slices.Delete(y.players, at, at+1)
	if y.r.Intn(6) == 0 {
		p.x.Rollback()
		return
	}
	gen, wanted := y.s.Gen(), api.OK
	if p.clash(y.holds) && (p.firm || len(p.writes) > 0) {
		wanted = api.ErrConflict
	}
	e := p.x.Commit()
	if e == api.ErrFull && wanted == api.OK && len(p.writes) > 0 {
		wanted = api.ErrFull // how much is too much the model can't tell
	}
	want(t, "Commit", e, wanted)
	if e == api.OK && len(p.writes) > 0 {
		y.holds = laidOver(y.holds, p.writes)
		y.order = append(y.order, p)
		gen++
	}
	if y.s.Gen() != gen {
		t.Fatalf("the gen is %d behind a Commit that was answered %v; want %d", y.s.Gen(), e, gen)
	}
	wantPairs(t, y.s, listOf(y.holds))
}

// P6.6, P6.8

func (y *play) all(t *testing.T, turns int) {
	t.Helper()
	for range turns {
		if len(y.players) < 2 || len(y.players) < 6 && y.r.Intn(12) == 0 {
			y.begin()
		}
		at := y.r.Intn(len(y.players))
		if y.r.Intn(8) > 0 {
			y.turn(t, y.players[at])
			continue
		}
		y.end(t, at)
		y.again(t)
	}
	for len(y.players) > 0 {
		y.end(t, 0)
	}
	wantAnew(t, y.d, y.s)
}

func TestTransactionsInTurns(t *testing.T) {
	for seed := range int64(40) {
		y := newPlay(t, seed, 600, 5+int(seed)%40)
		y.all(t, 800)
		holds := map[string]string{}
		for _, p := range y.order {
			holds = p.again(t, holds)
		}
		wantPairs(t, y.s, listOf(holds))
		if len(y.order) < 10 {
			t.Fatalf("%d were committed", len(y.order))
		}
	}
}

// The same on disks that run full.
func TestTransactionsInTurnsOnSmallDisks(t *testing.T) {
	for seed := range int64(20) {
		y := newPlay(t, seed, 6+int(seed), 20)
		y.all(t, 400)
		holds := map[string]string{}
		for _, p := range y.order {
			holds = p.again(t, holds)
		}
		wantPairs(t, y.s, listOf(holds))
	}
}

// The same calls on two stores are answered alike, and leave the same disk: nothing hangs on the order of a map.
func TestWhatIsDoneIsAlwaysTheSame(t *testing.T) {
	for seed := range int64(5) {
		a, b := newPlay(t, seed, 300, 30), newPlay(t, seed, 300, 30)
		a.all(t, 500)
		b.all(t, 500)
		if a.d.Steps() != b.d.Steps() || a.s.Free() != b.s.Free() {
			t.Fatalf("%d steps and %d free pages, and %d and %d", a.d.Steps(), a.s.Free(), b.d.Steps(), b.s.Free())
		}
		for n := range a.d.Size() {
			x, _ := a.d.Read(n)
			y, _ := b.d.Read(n)
			if !slices.Equal(x, y) {
				t.Fatalf("the sector %d is not the same", n)
			}
		}
	}
}

// old is a transaction that is open, and what it read at first.
type old struct {
	x *txn.Tx
	l []api.Pair
}

func TestReadsTheSameAgain(t *testing.T) {
	d, s := stocked(t, 2000, numbered(0, 200, "old")...)
	putAll(t, s, list("long", long(3000))...)
	var olds []old
	for i := range 15 {
		x := s.Begin()
		l, e := x.Range("", "", 1000)
		want(t, "Range", e, api.OK)
		olds = append(olds, old{x, l})
		putAll(t, s, numbered(i*20, 30, strconv.Itoa(i))...)
		putAll(t, s, list("long", strconv.Itoa(i)+long(2000))...)
		deleteAll(t, s, "00003", "00104", numbered(i, 1, "")[0].Key)
		if i%4 == 3 {
			olds[1].x.Rollback()
			want(t, "Commit", olds[0].x.Commit(), api.OK)
			olds = olds[2:]
		}
		for _, o := range olds {
			wantRange(t, o.x, "", "", 1000, o.l)
			for _, p := range o.l[:5] {
				wantGet(t, o.x, p.Key, p.Value)
			}
			wantGet(t, o.x, "long", o.l[len(o.l)-1].Value)
		}
	}
	for _, o := range olds {
		o.x.Rollback()
	}
	wantAnew(t, d, s)
}

// P6.7

// keeps are ways in which a crash may keep what waits: nothing, all, the first ones, all but one, each one alone, and pieces.
func keeps(waiting int) [][]api.Keep {
	all := make([]api.Keep, waiting)
	for i := range all {
		all[i] = api.Keep{Write: i, Bytes: api.Sector}
	}
	l := [][]api.Keep{nil, all}
	for i := range all {
		l = append(l, all[:i], slices.Delete(slices.Clone(all), i, i+1), all[i:i+1])
		for _, bytes := range []int{1, 8, 13, 504, 511} {
			torn := slices.Clone(all)
			torn[i].Bytes = bytes
			l = append(l, torn, torn[i:i+1])
		}
	}
	return l
}

// wantWhole holds that a store opened anew has one of these, whatever the crash keeps.
func wantWhole(t *testing.T, d *disk.Disk, may ...[]api.Pair) {
	t.Helper()
	for _, kept := range keeps(d.Waiting()) {
		c := d.Crash(kept...)
		s := opened(t, c)
		l, e := s.Pairs()
		want(t, "Pairs", e, api.OK)
		if !slices.ContainsFunc(may, func(m []api.Pair) bool { return slices.Equal(l, m) }) {
			t.Fatalf("behind a crash that kept %v there are %d pairs %.80q", kept, len(l), short(l))
		}
		want(t, "Check", s.Check(), api.OK)
		putAll(t, s, list("more", "1")...)
		wantAnew(t, c, s)
	}
}

func TestPowerInEachStepOfACommit(t *testing.T) {
	l := slices.Concat(numbered(0, 40, "v"), list("m", long(1200), "n", long(400)))
	works := []func(x *txn.Tx){
		puts(list("00007", "new")...),
		deletes("00001", "00030", "m"),
		both(puts(list("m", long(1201), "z", long(900), "00020", long(60), "a", "")...), deletes("00003", "n")),
		both(ranges("", "", 100), puts(numbered(30, 20, "w")...)),
		deletes("none"),
	}
	for _, before := range [][]api.Pair{nil, l} {
		for _, work := range works {
			for fuse := 0; ; fuse++ {
				d, s := stocked(t, 80, before...)
				other := s.Begin()
				x := s.Begin()
				work(x)
				after, e := x.Range("", "", 1000)
				want(t, "Range", e, api.OK)
				d.Fuse(fuse)
				e = x.Commit()
				want(t, "Commit again", x.Commit(), api.ErrState)
				if e == api.OK {
					wantPairs(t, s, after)
					wantRange(t, other, "", "", 1000, before)
					kill(t, d)
					wantWhole(t, d, after)
					break
				}
				want(t, "Commit", e, api.ErrPower)
				if len(before) > 0 {
					wantNoRange(t, other, "", "", 1000, api.ErrPower)
				}
				want(t, "Put", other.Put("a", "1"), api.OK)
				want(t, "Commit of another one", other.Commit(), api.ErrPower)
				wantWhole(t, d, before, after)
			}
		}
	}
}

// What comes behind a flush that was done, and ahead of the next one, is done or not: the first flush of a commit leaves all as it was.
func TestPowerAheadOfTheRoot(t *testing.T) {
	d, s := stocked(t, 80, letters("abc")...)
	steps := d.Steps()
	c := d.Copy()
	done(t, s, puts(list("a", "1", "z", long(2000))...))
	steps = d.Steps() - steps
	for left := range 4 {
		again := c.Copy()
		store := opened(t, again)
		x := store.Begin()
		puts(list("a", "1", "z", long(2000))...)(x)
		again.Fuse(steps - left)
		e := x.Commit()
		switch left {
		case 0: // all
			want(t, "Commit", e, api.OK)
			wantWhole(t, again, list("a", "1", "b", "b", "c", "c", "z", long(2000)))
		case 1: // all but the last flush: the root is written, and may be there or not
			want(t, "Commit", e, api.ErrPower)
			wantWhole(t, again, letters("abc"), list("a", "1", "b", "b", "c", "c", "z", long(2000)))
		default: // ahead of the root
			want(t, "Commit", e, api.ErrPower)
			wantWhole(t, again, letters("abc"))
		}
	}
}

// Crashes in a row: each store that is opened anew goes on from what the one ahead of it left.
func TestCrashesInARow(t *testing.T) {
	for seed := range int64(30) {
		y := newPlay(t, seed, 150, 30)
		for range 60 {
			y.d.Fuse(y.r.Intn(60))
			under := y.untilPowerGoes(t)
			var kept []api.Keep
			for i := range y.d.Waiting() {
				if y.r.Intn(3) > 0 {
					kept = append(kept, api.Keep{Write: i, Bytes: y.r.Intn(2 * api.Sector)})
				}
			}
			y.r.Shuffle(len(kept), func(a, b int) { kept[a], kept[b] = kept[b], kept[a] })
			y.d = y.d.Crash(kept...)
			y.s = opened(t, y.d)
			l, e := y.s.Pairs()
			want(t, "Pairs", e, api.OK)
			switch {
			case slices.Equal(l, listOf(y.holds)):
			case slices.Equal(l, listOf(under)):
				y.holds = under
			default:
				t.Fatalf("behind a crash there are %d pairs %.80q", len(l), short(l))
			}
			want(t, "Check", y.s.Check(), api.OK)
		}
		wantAnew(t, y.d, y.s)
	}
}

// untilPowerGoes commits one transaction after the other; what the pairs are, if the last one counts.
func (y *play) untilPowerGoes(t *testing.T) map[string]string {
	t.Helper()
	for {
		x, writes := y.s.Begin(), map[string]wrote{}
		for range 1 + y.r.Intn(6) {
			key, value := y.key(), y.value()
			want(t, "Put", x.Put(key, value), api.OK)
			writes[key] = wrote{value, true}
			if y.r.Intn(2) == 0 {
				key = y.key()
				want(t, "Delete", x.Delete(key), api.OK)
				writes[key] = wrote{}
			}
		}
		under := laidOver(y.holds, writes)
		switch e := x.Commit(); e {
		case api.OK:
			y.holds = under
		case api.ErrPower:
			return under
		case api.ErrFull:
		default:
			t.Fatalf("Commit = %v", e)
		}
	}
}
