package page_test

import (
	"bytes"
	"math"
	"slices"
	"strings"
	"testing"

	"haversack/api"
	"haversack/page"
)

// spread is a number as bytes, the highest one first: told apart from the program.
func spread(n uint64, size int) []byte {
	b := make([]byte, size)
	for i := size - 1; i >= 0; i-- {
		b[i] = byte(n % 256)
		n /= 256
	}
	return b
}

// plainSum is the sum as the chapter has it, with no wrap-round on the way.
func plainSum(b []byte) uint32 {
	var sum uint64
	for i, c := range b {
		sum = (sum + uint64(c)*uint64(i+1)) % (1 << 32)
	}
	return uint32(sum)
}

// pageOf is a page's sector as the chapter tells it, of whatever it is said to hold.
func pageOf(kind byte, length int, gen uint64, content string) []byte {
	b := slices.Concat([]byte{'H', 'v', kind, 0}, spread(uint64(length), 2), spread(gen, 6), make([]byte, 8), []byte(content))
	b = append(b, make([]byte, max(0, api.Sector-len(b)))...)
	return sumAgain(b)
}

// sumAgain lays a right sum into a sector.
func sumAgain(b []byte) []byte {
	b = slices.Clone(b)
	copy(b[12:], make([]byte, 4))
	copy(b[12:], spread(uint64(plainSum(b)), 4))
	return b
}

// rootOf is a root's sector as the chapter tells it.
func rootOf(gen uint64, length int, content string, again uint64) []byte {
	b := slices.Concat(spread(gen, 8), spread(uint64(length), 2), []byte(content))
	b = append(b, make([]byte, max(0, api.Sector-8-len(b)))...)
	return append(b[:api.Sector-8], spread(again, 8)...)
}

func sealed(t *testing.T, kind, gen int, content string) []byte {
	t.Helper()
	b, e := page.Seal(kind, gen, content)
	if e != api.OK || len(b) != api.Sector {
		t.Fatalf("Seal(%d, %d, %d bytes) = %d bytes, %v", kind, gen, len(content), len(b), e)
	}
	return b
}

func sealedRoot(t *testing.T, gen int, content string) []byte {
	t.Helper()
	b, e := page.SealRoot(gen, content)
	if e != api.OK || len(b) != api.Sector {
		t.Fatalf("SealRoot(%d, %d bytes) = %d bytes, %v", gen, len(content), len(b), e)
	}
	return b
}

func wantNoPage(t *testing.T, why string, b []byte) {
	t.Helper()
	before := slices.Clone(b)
	if kind, gen, content, e := page.Open(b); e != api.ErrForm || kind != 0 || gen != 0 || content != "" {
		t.Fatalf("Open, %s = %d, %d, %q, %v", why, kind, gen, content, e)
	}
	if !bytes.Equal(b, before) {
		t.Fatalf("Open, %s, changed what it was handed", why)
	}
}

func wantNoRoot(t *testing.T, why string, b []byte) {
	t.Helper()
	before := slices.Clone(b)
	if gen, content, e := page.OpenRoot(b); e != api.ErrForm || gen != 0 || content != "" {
		t.Fatalf("OpenRoot, %s = %d, %q, %v", why, gen, content, e)
	}
	if !bytes.Equal(b, before) {
		t.Fatalf("OpenRoot, %s, changed what it was handed", why)
	}
}

func wantPage(t *testing.T, b []byte, kind, gen int, content string) {
	t.Helper()
	before := slices.Clone(b)
	if k, g, c, e := page.Open(b); e != api.OK || k != kind || g != gen || c != content {
		t.Fatalf("Open = %d, %d, %q, %v; want %d, %d, %q", k, g, c, e, kind, gen, content)
	}
	if !bytes.Equal(b, before) {
		t.Fatal("Open changed what it was handed")
	}
}

func wantRoot(t *testing.T, b []byte, gen int, content string) {
	t.Helper()
	before := slices.Clone(b)
	if g, c, e := page.OpenRoot(b); e != api.OK || g != gen || c != content {
		t.Fatalf("OpenRoot = %d, %q, %v; want %d, %q", g, c, e, gen, content)
	}
	if !bytes.Equal(b, before) {
		t.Fatal("OpenRoot changed what it was handed")
	}
}

// P2.1

func TestSum(t *testing.T) {
	for _, c := range []struct {
		b    []byte
		want uint32
	}{
		{nil, 0},
		{[]byte{}, 0},
		{[]byte{0, 0, 0}, 0},
		{[]byte{255}, 255},
		{[]byte{1, 2, 3}, 14},
		{[]byte{3, 2, 1}, 10},
		{[]byte{0, 0, 255}, 765},
		{bytes.Repeat([]byte{255}, 512), 255 * 512 * 513 / 2},
	} {
		if got := page.Sum(c.b...); got != c.want {
			t.Fatalf("Sum(%v) = %d, want %d", c.b, got, c.want)
		}
	}
	if page.Sum() != 0 || page.Sum(1, 2, 3) != 14 {
		t.Fatal("Sum of bytes one by one")
	}
}

func TestSumWrapsRound(t *testing.T) {
	b := bytes.Repeat([]byte{255}, 20000)
	if want := plainSum(b); page.Sum(b...) != want {
		t.Fatalf("Sum = %d, want %d", page.Sum(b...), want)
	}
	// 255 * n(n+1)/2 is beyond 2^32 from n = 5804 on, and not ahead of it.
	for _, n := range []int{5803, 5804} {
		if got, want := page.Sum(b[:n]...), uint32(255*n*(n+1)/2%(1<<32)); got != want {
			t.Fatalf("Sum of %d bytes = %d, want %d", n, got, want)
		}
	}
}

func TestSumLeavesItsBytes(t *testing.T) {
	b := []byte{1, 2, 3}
	page.Sum(b...)
	if !bytes.Equal(b, []byte{1, 2, 3}) {
		t.Fatal(b)
	}
}

// P2.2

func TestSealExample(t *testing.T) {
	b := sealed(t, 1, 2, "ab")
	if !bytes.HasPrefix(b, []byte{72, 118, 1, 0, 0, 2, 0, 0, 0, 0, 0, 2}) {
		t.Fatal(b[:12])
	}
	// 72*1 + 118*2 + 1*3 + 2*6 + 2*12 + 97*21 + 98*22
	if want := []byte{0, 0, 0x11, 0xbc, 0, 0, 0, 0, 'a', 'b', 0}; 72+236+3+12+24+2037+2156 != 0x11bc || !bytes.Equal(b[12:23], want) {
		t.Fatal(b[12:23])
	}
	if !bytes.Equal(b[23:], make([]byte, api.Sector-23)) {
		t.Fatal("no noughts behind the content")
	}
	wantPage(t, b, 1, 2, "ab")
}

func TestSealLaysOutAPage(t *testing.T) {
	full := strings.Repeat("\xff", api.Room)
	for _, kind := range []int{0, 1, 127, 128, 255} {
		for _, gen := range []int{0, 1, 255, 256, 0x010203040506, 1<<48 - 2, 1<<48 - 1} {
			for _, content := range []string{"", "x", "\x00", "ab\x00", full[1:], full} {
				b := sealed(t, kind, gen, content)
				if want := pageOf(byte(kind), len(content), uint64(gen), content); !bytes.Equal(b, want) {
					t.Fatalf("Seal(%d, %d, %q) = %v, want %v", kind, gen, content, b, want)
				}
				wantPage(t, b, kind, gen, content)
			}
		}
	}
}

func TestSealRefuses(t *testing.T) {
	long := strings.Repeat("x", api.Room+1)
	for _, c := range []struct {
		kind, gen int
		content   string
		want      api.Errno
	}{
		{-1, 0, "", api.ErrArg},
		{256, 0, "", api.ErrArg},
		{math.MinInt, 0, "", api.ErrArg},
		{math.MaxInt, 0, "", api.ErrArg},
		{0, -1, "", api.ErrArg},
		{0, 1 << 48, "", api.ErrArg},
		{0, math.MinInt, "", api.ErrArg},
		{0, math.MaxInt, "", api.ErrArg},
		{-1, 0, long, api.ErrArg},
		{0, -1, long, api.ErrArg},
		{256, 1 << 48, long, api.ErrArg},
		{0, 0, long, api.ErrLong},
		{255, 1<<48 - 1, long, api.ErrLong},
		{1, 1, strings.Repeat("x", 100000), api.ErrLong},
	} {
		if b, e := page.Seal(c.kind, c.gen, c.content); b != nil || e != c.want {
			t.Fatalf("Seal(%d, %d, %d bytes) = %v, %v; want %v", c.kind, c.gen, len(c.content), b, e, c.want)
		}
	}
}

func TestOpenRefusesWrongLengths(t *testing.T) {
	b := sealed(t, 1, 2, "ab")
	wantNoPage(t, "nil", nil)
	wantNoPage(t, "nothing", []byte{})
	for n := range b {
		wantNoPage(t, "too short", b[:n])
	}
	wantNoPage(t, "a nought too many", append(slices.Clone(b), 0))
	wantNoPage(t, "two sectors", append(slices.Clone(b), b...))
}

func TestOpenRefusesWrongForms(t *testing.T) {
	// Each has a right sum: it is refused for what it is said to be alone.
	changed := func(at int, c byte) []byte {
		b := sealed(t, 1, 2, "ab")
		b[at] = c
		return sumAgain(b)
	}
	wantPage(t, changed(2, 9), 9, 2, "ab")
	wantNoPage(t, "a mark's first byte", changed(0, 'h'))
	wantNoPage(t, "a mark's second byte", changed(1, 'V'))
	wantNoPage(t, "the byte behind the kind", changed(3, 1))
	for at := 16; at < 20; at++ {
		wantNoPage(t, "a byte behind the sum", changed(at, 1))
	}
	for at := 22; at < api.Sector; at++ {
		wantNoPage(t, "a byte behind the content", changed(at, 1))
	}
	wantNoPage(t, "noughts", make([]byte, api.Sector))
	wantNoPage(t, "a root", sealedRoot(t, 1, "ab"))
	full := strings.Repeat("x", api.Room)
	for _, n := range []int{api.Room + 1, api.Sector, 1<<16 - 1} {
		wantNoPage(t, "a length beyond the room", pageOf(1, n, 2, full))
		wantNoPage(t, "a length beyond the room, of noughts", pageOf(1, n, 2, ""))
	}
	wantNoPage(t, "a length that is too small", pageOf(1, 1, 2, "ab"))
	wantNoPage(t, "a content of more than it is said to have", pageOf(1, api.Room-1, 2, full))
	wantPage(t, pageOf(1, 3, 2, "ab"), 1, 2, "ab\x00")
}

func TestOpenRefusesWrongSums(t *testing.T) {
	b := sealed(t, 1, 2, "ab")
	for at := 12; at < 16; at++ {
		w := slices.Clone(b)
		w[at]++
		wantNoPage(t, "a wrong sum", w)
	}
	w := slices.Clone(b)
	copy(w[12:], make([]byte, 4))
	wantNoPage(t, "no sum", w)
	// The sum of all bytes, the sum's own among them, is another one.
	copy(w[12:], spread(uint64(plainSum(b)), 4))
	wantNoPage(t, "a sum of itself", w)
}

// P2.3

func TestSealRootLaysOutARoot(t *testing.T) {
	full := strings.Repeat("\xff", api.RootRoom)
	for _, gen := range []int{1, 2, 255, 256, 1 << 48, 0x0102030405060708, 1<<62 - 1, 1 << 62} {
		for _, content := range []string{"", "x", "\x00", "ab\x00", full[1:], full} {
			b := sealedRoot(t, gen, content)
			if want := rootOf(uint64(gen), len(content), content, uint64(gen)); !bytes.Equal(b, want) {
				t.Fatalf("SealRoot(%d, %q) = %v, want %v", gen, content, b, want)
			}
			wantRoot(t, b, gen, content)
		}
	}
}

func TestSealRootRefuses(t *testing.T) {
	long := strings.Repeat("x", api.RootRoom+1)
	for _, c := range []struct {
		gen     int
		content string
		want    api.Errno
	}{
		{0, "", api.ErrArg},
		{-1, "", api.ErrArg},
		{1<<62 + 1, "", api.ErrArg},
		{math.MinInt, "", api.ErrArg},
		{math.MaxInt, "", api.ErrArg},
		{0, long, api.ErrArg},
		{1<<62 + 1, long, api.ErrArg},
		{1, long, api.ErrLong},
		{1 << 62, long, api.ErrLong},
		{1, strings.Repeat("x", 494), api.ErrLong},
		{1, strings.Repeat("x", 100000), api.ErrLong},
	} {
		if b, e := page.SealRoot(c.gen, c.content); b != nil || e != c.want {
			t.Fatalf("SealRoot(%d, %d bytes) = %v, %v; want %v", c.gen, len(c.content), b, e, c.want)
		}
	}
}

func TestOpenRootRefusesWrongLengths(t *testing.T) {
	b := sealedRoot(t, 7, "ab")
	wantNoRoot(t, "nil", nil)
	wantNoRoot(t, "nothing", []byte{})
	for n := range b {
		wantNoRoot(t, "too short", b[:n])
	}
	wantNoRoot(t, "a nought too many", append(slices.Clone(b), 0))
	wantNoRoot(t, "two sectors", append(slices.Clone(b), b...))
}

func TestOpenRootRefusesWrongForms(t *testing.T) {
	wantRoot(t, rootOf(7, 2, "ab", 7), 7, "ab")
	wantNoRoot(t, "two gens", rootOf(7, 2, "ab", 8))
	wantNoRoot(t, "no gen behind", rootOf(7, 2, "ab", 0))
	wantNoRoot(t, "noughts", make([]byte, api.Sector))
	wantNoRoot(t, "a gen of 0", rootOf(0, 2, "ab", 0))
	wantRoot(t, rootOf(1<<62, 2, "ab", 1<<62), 1<<62, "ab")
	for _, gen := range []uint64{1<<62 + 1, 1<<63 - 1, 1 << 63, 1<<63 + 1, 1<<64 - 1} {
		wantNoRoot(t, "a gen that is too great", rootOf(gen, 2, "ab", gen))
	}
	full := strings.Repeat("x", api.Sector-18)
	wantRoot(t, rootOf(7, api.RootRoom, full[:api.RootRoom], 7), 7, full[:api.RootRoom])
	for _, n := range []int{api.RootRoom + 1, 492, 493, 494} {
		wantNoRoot(t, "a length beyond the room", rootOf(7, n, full[:n], 7))
	}
	for _, n := range []int{api.RootRoom + 1, 494, 495, api.Sector, 1<<16 - 1} {
		wantNoRoot(t, "a length beyond the room", rootOf(7, n, full, 7))
		wantNoRoot(t, "a length beyond the room, of noughts", rootOf(7, n, "", 7))
	}
	wantNoRoot(t, "a length that is too small", rootOf(7, 1, "ab", 7))
	for at := 12; at < api.Sector-8; at++ {
		b := rootOf(7, 2, "ab", 7)
		b[at] = 1
		wantNoRoot(t, "a byte behind the content", b)
	}
	wantNoRoot(t, "a page", sealed(t, 1, 2, "ab"))
}

// Rule 3

func TestSectorsAreTheCallersOwn(t *testing.T) {
	a, b := sealed(t, 1, 2, "ab"), sealed(t, 1, 2, "ab")
	clear(a)
	wantPage(t, b, 1, 2, "ab")
	wantPage(t, sealed(t, 1, 2, "ab"), 1, 2, "ab")
	_, _, content, _ := page.Open(b)
	clear(b)
	if content != "ab" {
		t.Fatal("the content changes with the sector")
	}
	a, b = sealedRoot(t, 7, "ab"), sealedRoot(t, 7, "ab")
	clear(a)
	wantRoot(t, b, 7, "ab")
	_, content, _ = page.OpenRoot(b)
	clear(b)
	if content != "ab" {
		t.Fatal("the content changes with the root's sector")
	}
}
