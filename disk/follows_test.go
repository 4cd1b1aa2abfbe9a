package disk_test

import (
	"bytes"
	"math/rand"
	"testing"

	"haversack/api"
	"haversack/disk"
)

// seeds is how many plays of each kind are done: the same ones each time.
const seeds = 200

// play is a disk of a few sectors, and all that was ever done with it, kept apart from it in the plainest way: each sector as it was flushed last, and the writes since.
type play struct {
	*disk.Disk
	r       *rand.Rand
	flushed map[int][]byte
	ats     []int
	written [][]byte
	fuse    int
	gone    bool
	steps   int
}

func newPlay(t *testing.T, seed int64) *play {
	r := rand.New(rand.NewSource(seed))
	p := &play{r: r, flushed: map[int][]byte{}, fuse: -1}
	p.Disk = newDisk(t, 1+r.Intn(4))
	for at := range p.Size() {
		p.flushed[at] = sectorOf(0)
	}
	return p
}

// noise is a sector of which hardly two bytes are the same, so that no torn one goes for another one.
func (p *play) noise() []byte {
	b := make([]byte, api.Sector)
	p.r.Read(b)
	return b
}

// last is what a read must tell.
func (p *play) last(at int) []byte {
	b := p.flushed[at]
	for i, w := range p.ats {
		if w == at {
			b = p.written[i]
		}
	}
	return b
}

// power tells of a step that comes whether it is done.
func (p *play) power() bool {
	if p.gone || p.fuse == 0 {
		p.gone = true
		return false
	}
	p.fuse--
	p.steps++
	return true
}

func (p *play) write(t *testing.T) {
	at, b := p.r.Intn(p.Size()+2)-1, p.noise()
	if p.r.Intn(8) == 0 {
		b = b[:p.r.Intn(api.Sector)]
	}
	want := api.OK
	switch {
	case len(b) != api.Sector:
		want = api.ErrArg
	case at < 0 || at >= p.Size():
		want = api.ErrRange
	case !p.power():
		want = api.ErrPower
	default:
		p.ats, p.written = append(p.ats, at), append(p.written, b)
	}
	if e := p.Write(at, b); e != want {
		t.Fatalf("Write(%d, %d bytes) = %v; want %v", at, len(b), e, want)
	}
}

func (p *play) flush(t *testing.T) {
	want := api.ErrPower
	if p.power() {
		want = api.OK
		for i, at := range p.ats {
			p.flushed[at] = p.written[i]
		}
		p.ats, p.written = nil, nil
	}
	if e := p.Flush(); e != want {
		t.Fatalf("Flush = %v; want %v", e, want)
	}
}

func (p *play) read(t *testing.T) {
	at := p.r.Intn(p.Size()+2) - 1
	want, wantErr := []byte(nil), api.OK
	switch {
	case at < 0 || at >= p.Size():
		wantErr = api.ErrRange
	case p.gone:
		wantErr = api.ErrPower
	default:
		want = p.last(at)
	}
	if b, e := p.Read(at); e != wantErr || !bytes.Equal(b, want) {
		t.Fatalf("Read(%d) = %v, %v; want %v, %v", at, b, e, want, wantErr)
	}
}

// step does a call of one kind or another, and holds what it answers against what was done.
func (p *play) step(t *testing.T) {
	switch k := p.r.Intn(80); {
	case k < 38:
		p.write(t)
	case k < 46:
		p.flush(t)
	case k < 70:
		p.read(t)
	case k < 72:
		p.fuse = p.r.Intn(12) - 2
		p.Fuse(p.fuse)
	default:
		p.Disk = p.Copy()
	}
	wantCounts(t, p.Disk, p.Size(), len(p.ats), p.steps)
}

// kept are keeps of all kinds: of writes that wait and of none, of no byte, a few, all, and more.
func (p *play) kept() []api.Keep {
	l := make([]api.Keep, p.r.Intn(6))
	for i := range l {
		l[i] = api.Keep{Write: p.r.Intn(len(p.ats)+3) - 1, Bytes: p.r.Intn(api.Sector+100) - 50}
	}
	return l
}

// eachMoment does plays, and looks at them behind each of their steps.
func eachMoment(t *testing.T, look func(p *play)) {
	for seed := range int64(seeds) {
		p := newPlay(t, seed)
		for range 40 {
			p.step(t)
			look(p)
		}
	}
}

func TestPlaysGoAsDocumented(t *testing.T) {
	eachMoment(t, func(p *play) {})
}

// P1.4, of all keeps together.
func TestCrashesGoAsDocumented(t *testing.T) {
	eachMoment(t, func(p *play) {
		want := map[int][]byte{}
		for at, b := range p.flushed {
			want[at] = bytes.Clone(b)
		}
		l := p.kept()
		for _, k := range l {
			if k.Write >= 0 && k.Write < len(p.ats) && k.Bytes > 0 {
				copy(want[p.ats[k.Write]], p.written[k.Write][:min(k.Bytes, api.Sector)])
			}
		}
		c := p.Crash(l...)
		for at := range p.Size() {
			wantSector(t, c, at, want[at])
		}
	})
}

// P1.5
func TestWhatWasFlushedIsThereBehindAnyCrash(t *testing.T) {
	eachMoment(t, func(p *play) {
		since := map[int]int{}
		for _, at := range p.ats {
			since[at]++
		}
		c := p.Crash(p.kept()...)
		for at := range p.Size() {
			if since[at] == 0 {
				wantSector(t, c, at, p.flushed[at])
			}
		}
	})
}

func TestFlushedAndWrittenAgain(t *testing.T) {
	d := newDisk(t, 2)
	write(t, d, 0, 'a')
	write(t, d, 1, 'b')
	flush(t, d)
	write(t, d, 0, 'c')
	wantSector(t, d.Crash(), 0, sectorOf('a'))
	for n := range api.Sector + 1 {
		c := d.Crash(api.Keep{Write: 0, Bytes: n})
		wantSector(t, c, 0, torn('c', n, 'a'))
		wantSector(t, c, 1, sectorOf('b'))
	}
}

// P1.6
func TestBytesBehindACrashAreOfSomething(t *testing.T) {
	eachMoment(t, func(p *play) {
		c := p.Crash(p.kept()...)
		for at := range p.Size() {
			b, _ := c.Read(at)
			for i := range api.Sector {
				if !p.mayHold(at, i, b[i]) {
					t.Fatalf("byte %d of sector %d came of nothing", i, at)
				}
			}
		}
	})
}

func (p *play) mayHold(at, i int, c byte) bool {
	if p.flushed[at][i] == c {
		return true
	}
	for w := range p.ats {
		if p.ats[w] == at && p.written[w][i] == c {
			return true
		}
	}
	return false
}

// P1.7
func TestCrashThatKeepsAllLeavesWhatIsRead(t *testing.T) {
	eachMoment(t, func(p *play) {
		var all []api.Keep
		for w := range p.Waiting() {
			all = append(all, api.Keep{Write: w, Bytes: api.Sector})
		}
		c := p.Crash(all...)
		for at := range p.Size() {
			wantSector(t, c, at, p.last(at))
			if b, e := p.Read(at); e == api.OK {
				wantSector(t, c, at, b)
			}
		}
	})
}

// P1.7, of the greatest disk, each sector of which waits.
func TestGreatestDiskBehindACrash(t *testing.T) {
	d := newDisk(t, api.MaxSectors)
	var all []api.Keep
	for at := range api.MaxSectors {
		write(t, d, at, byte(at))
		all = append(all, api.Keep{Write: at, Bytes: api.Sector})
	}
	wantCounts(t, d, api.MaxSectors, api.MaxSectors, api.MaxSectors)
	kept := d.Crash(all...)
	flush(t, d)
	copied, bare := d.Copy(), d.Crash()
	for at := range api.MaxSectors {
		for _, c := range []*disk.Disk{kept, d, copied, bare} {
			wantSector(t, c, at, sectorOf(byte(at)))
		}
	}
}
