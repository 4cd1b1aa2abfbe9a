package disk_test

import (
	"bytes"
	"math"
	"slices"
	"testing"

	"haversack/api"
	"haversack/disk"
)

// sectorOf is a sector of one byte alone.
func sectorOf(c byte) []byte {
	return bytes.Repeat([]byte{c}, api.Sector)
}

// torn is a sector whose first n bytes are of one byte, the others of another one.
func torn(c byte, n int, rest byte) []byte {
	return append(bytes.Repeat([]byte{c}, n), bytes.Repeat([]byte{rest}, api.Sector-n)...)
}

func newDisk(t *testing.T, n int) *disk.Disk {
	t.Helper()
	d, e := disk.New(n)
	if e != api.OK || d == nil {
		t.Fatalf("New(%d) = %v, %v", n, d, e)
	}
	return d
}

func write(t *testing.T, d *disk.Disk, at int, c byte) {
	t.Helper()
	if e := d.Write(at, sectorOf(c)); e != api.OK {
		t.Fatalf("Write(%d) = %v", at, e)
	}
}

func flush(t *testing.T, d *disk.Disk) {
	t.Helper()
	if e := d.Flush(); e != api.OK {
		t.Fatalf("Flush = %v", e)
	}
}

func wantSector(t *testing.T, d *disk.Disk, at int, want []byte) {
	t.Helper()
	if b, e := d.Read(at); e != api.OK || !bytes.Equal(b, want) {
		t.Fatalf("Read(%d) = %v, %v; want %v", at, b, e, want)
	}
}

func wantCounts(t *testing.T, d *disk.Disk, size, waiting, steps int) {
	t.Helper()
	if d.Size() != size || d.Waiting() != waiting || d.Steps() != steps {
		t.Fatalf("Size, Waiting, Steps = %d, %d, %d; want %d, %d, %d", d.Size(), d.Waiting(), d.Steps(), size, waiting, steps)
	}
}

// wantNoPower holds that every call that needs power is refused, and that nothing is counted.
func wantNoPower(t *testing.T, d *disk.Disk) {
	t.Helper()
	size, waiting, steps := d.Size(), d.Waiting(), d.Steps()
	if e := d.Write(0, sectorOf('z')); e != api.ErrPower {
		t.Fatalf("Write without power = %v", e)
	}
	if e := d.Flush(); e != api.ErrPower {
		t.Fatalf("Flush without power = %v", e)
	}
	if b, e := d.Read(0); e != api.ErrPower || b != nil {
		t.Fatalf("Read without power = %v, %v", b, e)
	}
	wantCounts(t, d, size, waiting, steps)
}

// P1.1

func TestNewTakesOneToMaxSectors(t *testing.T) {
	for _, n := range []int{1, 2, 4, api.MaxSectors - 1, api.MaxSectors} {
		d := newDisk(t, n)
		wantCounts(t, d, n, 0, 0)
		wantSector(t, d, 0, sectorOf(0))
		wantSector(t, d, n-1, sectorOf(0))
		if _, e := d.Read(n); e != api.ErrRange {
			t.Fatalf("Read(%d) of a disk of %d = %v", n, n, e)
		}
	}
}

func TestNewRefusesOtherSizes(t *testing.T) {
	for _, n := range []int{math.MinInt, -1, 0, api.MaxSectors + 1, math.MaxInt} {
		if d, e := disk.New(n); d != nil || e != api.ErrArg {
			t.Fatalf("New(%d) = %v, %v", n, d, e)
		}
	}
}

func TestStepsCountWhatWasDone(t *testing.T) {
	d := newDisk(t, 3)
	write(t, d, 1, 'a')
	wantCounts(t, d, 3, 1, 1)
	write(t, d, 1, 'b')
	wantCounts(t, d, 3, 2, 2)
	wantSector(t, d, 1, sectorOf('b'))
	wantCounts(t, d, 3, 2, 2)
	flush(t, d)
	wantCounts(t, d, 3, 0, 3)
	flush(t, d)
	wantCounts(t, d, 3, 0, 4)
	d.Write(3, sectorOf('c'))
	d.Write(1, nil)
	d.Fuse(0)
	d.Write(1, sectorOf('c'))
	d.Flush()
	wantCounts(t, d, 3, 0, 4)
}

// P1.2

func TestReadTellsTheLastWriteThatWaits(t *testing.T) {
	d := newDisk(t, 3)
	write(t, d, 1, 'a')
	write(t, d, 2, 'b')
	write(t, d, 1, 'c')
	wantSector(t, d, 0, sectorOf(0))
	wantSector(t, d, 1, sectorOf('c'))
	wantSector(t, d, 2, sectorOf('b'))
	flush(t, d)
	wantSector(t, d, 0, sectorOf(0))
	wantSector(t, d, 1, sectorOf('c'))
	wantSector(t, d, 2, sectorOf('b'))
	write(t, d, 1, 'd')
	wantSector(t, d, 1, sectorOf('d'))
	wantSector(t, d, 2, sectorOf('b'))
}

func TestFlushDoesWritesInOrder(t *testing.T) {
	d := newDisk(t, 2)
	write(t, d, 0, 'a')
	write(t, d, 0, 'b')
	flush(t, d)
	wantSector(t, d.Crash(), 0, sectorOf('b'))
	wantCounts(t, d, 2, 0, 3)
}

func TestWriteErrorsComeInOrder(t *testing.T) {
	d := newDisk(t, 2)
	var none *disk.Disk
	if e := none.Write(9, nil); e != api.ErrNil {
		t.Fatalf("Write of nil = %v", e)
	}
	for _, b := range [][]byte{nil, {}, {1}, make([]byte, api.Sector-1), make([]byte, api.Sector+1)} {
		for _, at := range []int{-1, 0, 2} {
			if e := d.Write(at, b); e != api.ErrArg {
				t.Fatalf("Write(%d, %d bytes) = %v", at, len(b), e)
			}
		}
	}
	for _, at := range []int{math.MinInt, -1, 2, api.MaxSectors, math.MaxInt} {
		if e := d.Write(at, sectorOf('a')); e != api.ErrRange {
			t.Fatalf("Write(%d) = %v", at, e)
		}
		if b, e := d.Read(at); b != nil || e != api.ErrRange {
			t.Fatalf("Read(%d) = %v, %v", at, b, e)
		}
	}
	wantCounts(t, d, 2, 0, 0)
	wantSector(t, d, 0, sectorOf(0))
	wantSector(t, d, 1, sectorOf(0))
}

func TestArgumentsAreLookedAtAheadOfThePower(t *testing.T) {
	d := newDisk(t, 2)
	d.Fuse(0)
	wantNoPower(t, d)
	if e := d.Write(-1, nil); e != api.ErrArg {
		t.Fatalf("Write of a wrong length without power = %v", e)
	}
	if e := d.Write(2, sectorOf('a')); e != api.ErrRange {
		t.Fatalf("Write to no sector without power = %v", e)
	}
	if _, e := d.Read(2); e != api.ErrRange {
		t.Fatalf("Read of no sector without power = %v", e)
	}
}

// P1.3

func TestFuseIsHowManyStepsAreStillDone(t *testing.T) {
	for n := range 5 {
		d := newDisk(t, 2)
		write(t, d, 0, 'a')
		d.Fuse(n)
		for i := range n {
			if i%2 == 0 {
				flush(t, d)
			} else {
				write(t, d, 1, 'b')
			}
		}
		wantNoPower(t, d)
		if d.Steps() != 1+n {
			t.Fatalf("Steps = %d behind a fuse of %d", d.Steps(), n)
		}
	}
}

func TestFuseOfNoughtLetsNothingWaitMore(t *testing.T) {
	d := newDisk(t, 2)
	write(t, d, 0, 'a')
	d.Fuse(0)
	if e := d.Flush(); e != api.ErrPower {
		t.Fatalf("Flush with a fuse of 0 = %v", e)
	}
	wantNoPower(t, d)
	wantCounts(t, d, 2, 1, 1)
	wantSector(t, d.Crash(), 0, sectorOf(0))
	wantSector(t, d.Crash(api.Keep{Write: 0, Bytes: api.Sector}), 0, sectorOf('a'))
}

func TestPowerGoesAheadOfTheNextStep(t *testing.T) {
	d := newDisk(t, 2)
	d.Fuse(1)
	write(t, d, 1, 'a')
	wantSector(t, d, 1, sectorOf('a'))
	d.Write(2, sectorOf('b'))
	d.Write(1, nil)
	wantSector(t, d, 1, sectorOf('a'))
	if e := d.Write(1, sectorOf('b')); e != api.ErrPower {
		t.Fatalf("Write behind the fuse = %v", e)
	}
	wantNoPower(t, d)
}

func TestWhatIsNoStepLeavesTheFuse(t *testing.T) {
	d := newDisk(t, 2)
	d.Fuse(2)
	d.Read(0)
	d.Write(0, nil)
	d.Write(9, sectorOf('a'))
	d.Read(9)
	d.Crash()
	d.Copy()
	write(t, d, 0, 'a')
	flush(t, d)
	wantNoPower(t, d)
}

func TestFuseBelowNoughtIsNone(t *testing.T) {
	for _, n := range []int{-1, -2, math.MinInt} {
		d := newDisk(t, 2)
		d.Fuse(1)
		d.Fuse(n)
		for range 10 {
			write(t, d, 0, 'a')
			flush(t, d)
		}
		wantCounts(t, d, 2, 0, 20)
	}
}

func TestFuseMayBeChangedWhileThereIsPower(t *testing.T) {
	d := newDisk(t, 2)
	d.Fuse(5)
	d.Fuse(1)
	write(t, d, 0, 'a')
	d.Fuse(2)
	write(t, d, 0, 'b')
	flush(t, d)
	wantNoPower(t, d)
}

func TestPowerThatIsGoneIsGone(t *testing.T) {
	for _, n := range []int{-1, 0, 1, 100, math.MaxInt} {
		d := newDisk(t, 2)
		d.Fuse(0)
		d.Flush()
		d.Fuse(n)
		wantNoPower(t, d)
	}
}

// P1.4

func TestCrashTakesWhatWaits(t *testing.T) {
	d := newDisk(t, 3)
	write(t, d, 0, 'a')
	flush(t, d)
	write(t, d, 0, 'b')
	write(t, d, 1, 'c')
	c := d.Crash()
	wantCounts(t, c, 3, 0, 0)
	wantSector(t, c, 0, sectorOf('a'))
	wantSector(t, c, 1, sectorOf(0))
}

func TestCrashKeepsFirstBytes(t *testing.T) {
	kept := []struct{ bytes, laid int }{
		{math.MinInt, 0}, {-1, 0}, {0, 0}, {1, 1}, {3, 3}, {api.Sector - 1, api.Sector - 1},
		{api.Sector, api.Sector}, {api.Sector + 1, api.Sector}, {math.MaxInt, api.Sector},
	}
	d := newDisk(t, 2)
	write(t, d, 1, 'a')
	flush(t, d)
	write(t, d, 1, 'x')
	for _, k := range kept {
		c := d.Crash(api.Keep{Write: 0, Bytes: k.bytes})
		wantSector(t, c, 1, torn('x', k.laid, 'a'))
		wantSector(t, c, 0, sectorOf(0))
		wantCounts(t, c, 2, 0, 0)
	}
}

func TestCrashPassesOverWhatNamesNoWrite(t *testing.T) {
	d := newDisk(t, 2)
	write(t, d, 0, 'a')
	flush(t, d)
	write(t, d, 0, 'b')
	for _, w := range []int{math.MinInt, -1, 1, 2, math.MaxInt} {
		c := d.Crash(api.Keep{Write: w, Bytes: api.Sector})
		wantSector(t, c, 0, sectorOf('a'))
		c = d.Crash(api.Keep{Write: w, Bytes: api.Sector}, api.Keep{Write: 0, Bytes: api.Sector})
		wantSector(t, c, 0, sectorOf('b'))
	}
}

func TestCrashNumbersWritesSinceTheFlush(t *testing.T) {
	d := newDisk(t, 2)
	write(t, d, 0, 'a')
	write(t, d, 1, 'b')
	flush(t, d)
	write(t, d, 1, 'c')
	c := d.Crash(api.Keep{Write: 0, Bytes: 2})
	wantSector(t, c, 0, sectorOf('a'))
	wantSector(t, c, 1, torn('c', 2, 'b'))
}

func TestCrashKeepsInTheOrderOfTheKeeps(t *testing.T) {
	d := newDisk(t, 1)
	write(t, d, 0, 'a')
	write(t, d, 0, 'b')
	whole := func(w int) api.Keep { return api.Keep{Write: w, Bytes: api.Sector} }
	wantSector(t, d.Crash(whole(0), whole(1)), 0, sectorOf('b'))
	wantSector(t, d.Crash(whole(1), whole(0)), 0, sectorOf('a'))
	wantSector(t, d.Crash(whole(1), api.Keep{Write: 0, Bytes: 5}), 0, torn('a', 5, 'b'))
	wantSector(t, d.Crash(whole(0), whole(1), whole(0)), 0, sectorOf('a'))
}

func TestCrashBringsPowerAndTakesTheFuse(t *testing.T) {
	d := newDisk(t, 2)
	d.Fuse(1)
	write(t, d, 0, 'a')
	for range 2 {
		c := d.Crash(api.Keep{Write: 0, Bytes: api.Sector})
		wantSector(t, c, 0, sectorOf('a'))
		wantCounts(t, c, 2, 0, 0)
		for range 3 {
			write(t, c, 1, 'b')
			flush(t, c)
		}
		d.Flush() // the second time round the old one's power is gone
	}
	wantNoPower(t, d)
}

func TestCrashLeavesTheOldOne(t *testing.T) {
	d := newDisk(t, 2)
	write(t, d, 0, 'a')
	flush(t, d)
	write(t, d, 1, 'b')
	d.Fuse(2)
	c := d.Crash(api.Keep{Write: 0, Bytes: 4})
	write(t, c, 0, 'y')
	flush(t, c)
	wantCounts(t, d, 2, 1, 3)
	wantSector(t, d, 0, sectorOf('a'))
	wantSector(t, d, 1, sectorOf('b'))
	wantSector(t, d.Crash(), 1, sectorOf(0))
	write(t, d, 1, 'd')
	flush(t, d)
	wantNoPower(t, d)
	wantSector(t, c, 0, sectorOf('y'))
	wantSector(t, c, 1, torn('b', 4, 0))
}

func TestCopyIsTheSame(t *testing.T) {
	d := newDisk(t, 2)
	write(t, d, 0, 'a')
	flush(t, d)
	write(t, d, 1, 'b')
	d.Fuse(2)
	c := d.Copy()
	wantCounts(t, c, 2, 1, 3)
	wantSector(t, c, 0, sectorOf('a'))
	wantSector(t, c, 1, sectorOf('b'))
	wantSector(t, c.Crash(), 1, sectorOf(0))
	wantSector(t, c.Crash(api.Keep{Write: 0, Bytes: 1}), 1, torn('b', 1, 0))
	write(t, c, 0, 'c')
	flush(t, c)
	wantNoPower(t, c)
	wantNoPower(t, c.Copy())
}

func TestCopyGoesOnApart(t *testing.T) {
	d := newDisk(t, 2)
	write(t, d, 0, 'a')
	c := d.Copy()
	write(t, d, 1, 'd')
	write(t, c, 1, 'c')
	wantSector(t, d, 1, sectorOf('d'))
	wantSector(t, c, 1, sectorOf('c'))
	flush(t, c)
	wantCounts(t, d, 2, 2, 2)
	wantSector(t, d.Crash(), 0, sectorOf(0))
	wantSector(t, c.Crash(), 0, sectorOf('a'))
	c.Fuse(0)
	c.Flush()
	wantNoPower(t, c)
	flush(t, d)
	wantSector(t, d, 1, sectorOf('d'))
}

// However many writes wait: some lists of them have room behind their end, which two disks must not share.
func TestCopyGoesOnApartWithManyWrites(t *testing.T) {
	d := newDisk(t, 1)
	for range 20 {
		write(t, d, 0, 'a')
		c := d.Copy()
		write(t, d, 0, 'd')
		write(t, c, 0, 'c')
		wantSector(t, d, 0, sectorOf('d'))
		wantSector(t, c, 0, sectorOf('c'))
	}
}

// P1, P2, rules 3 and 4

func TestNilDisk(t *testing.T) {
	var d *disk.Disk
	if e := d.Write(0, sectorOf('a')); e != api.ErrNil {
		t.Fatalf("Write = %v", e)
	}
	if b, e := d.Read(0); b != nil || e != api.ErrNil {
		t.Fatalf("Read = %v, %v", b, e)
	}
	if b, e := d.Read(-1); b != nil || e != api.ErrNil {
		t.Fatalf("Read(-1) = %v, %v", b, e)
	}
	if e := d.Flush(); e != api.ErrNil {
		t.Fatalf("Flush = %v", e)
	}
	d.Fuse(0)
	if d.Crash() != nil || d.Crash(api.Keep{Write: 0, Bytes: 1}) != nil || d.Copy() != nil {
		t.Fatal("a disk came of none")
	}
	wantCounts(t, d, 0, 0, 0)
}

func TestRefusedCallsChangeNothing(t *testing.T) {
	d := newDisk(t, 2)
	write(t, d, 0, 'a')
	flush(t, d)
	write(t, d, 1, 'b')
	d.Write(2, sectorOf('c'))
	d.Write(1, make([]byte, 3))
	d.Read(-1)
	wantCounts(t, d, 2, 1, 3)
	wantSector(t, d, 0, sectorOf('a'))
	wantSector(t, d, 1, sectorOf('b'))
	d.Fuse(0)
	d.Write(0, sectorOf('z'))
	d.Flush()
	c := d.Crash(api.Keep{Write: 0, Bytes: api.Sector}, api.Keep{Write: 1, Bytes: api.Sector})
	wantSector(t, c, 0, sectorOf('a'))
	wantSector(t, c, 1, sectorOf('b'))
}

func TestBytesAreTheirOwners(t *testing.T) {
	d := newDisk(t, 2)
	in := sectorOf('a')
	d.Write(0, in)
	in[0] = 'z'
	wantSector(t, d, 0, sectorOf('a'))
	out, _ := d.Read(0)
	out[0] = 'z'
	wantSector(t, d, 0, sectorOf('a'))
	flush(t, d)
	out, _ = d.Read(0)
	out[0] = 'z'
	in[1] = 'z'
	wantSector(t, d, 0, sectorOf('a'))
	wantSector(t, d.Crash(), 0, sectorOf('a'))
}

func TestArgumentsStay(t *testing.T) {
	d := newDisk(t, 1)
	in := sectorOf('a')
	d.Write(0, in)
	flush(t, d)
	write(t, d, 0, 'b')
	kept := []api.Keep{{Write: 9, Bytes: 900}, {Write: 0, Bytes: -7}, {Write: 0, Bytes: 900}}
	c := d.Crash(kept...)
	write(t, c, 0, 'c')
	flush(t, c)
	if !bytes.Equal(in, sectorOf('a')) || !slices.Equal(kept, []api.Keep{{Write: 9, Bytes: 900}, {Write: 0, Bytes: -7}, {Write: 0, Bytes: 900}}) {
		t.Fatal("an argument was changed")
	}
}
