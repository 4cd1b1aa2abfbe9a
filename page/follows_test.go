package page_test

import (
	"bytes"
	"math/rand"
	"slices"
	"strings"
	"testing"

	"haversack/api"
	"haversack/page"
)

// noise is a content of so many bytes at the most, with noughts often enough that they stand at its end as well.
func noise(r *rand.Rand, most int) string {
	b := make([]byte, r.Intn(most+1))
	for i := range b {
		if r.Intn(3) > 0 {
			b[i] = byte(r.Intn(256))
		}
	}
	return string(b)
}

// P2.4

func TestWhatWasSealedComesBack(t *testing.T) {
	r := rand.New(rand.NewSource(1))
	for range 2000 {
		kind, gen, content := r.Intn(256), int(r.Int63n(1<<48)), noise(r, api.Room)
		wantPage(t, sealed(t, kind, gen, content), kind, gen, content)
		rootGen, rootContent := 1+int(r.Int63n(1<<62)), noise(r, api.RootRoom)
		wantRoot(t, sealedRoot(t, rootGen, rootContent), rootGen, rootContent)
	}
}

// damage changes a few of a sector's bytes, mostly of those that say what it holds.
func damage(r *rand.Rand, b []byte) []byte {
	b = slices.Clone(b)
	for range 1 + r.Intn(3) {
		switch r.Intn(4) {
		case 0:
			b[r.Intn(20)] = byte(r.Intn(256))
		case 1:
			b[r.Intn(20)] ^= 1 << r.Intn(8)
		case 2:
			b[r.Intn(len(b))] = byte(r.Intn(2))
		case 3:
			b[len(b)-1-r.Intn(8)] ^= 1 << r.Intn(8)
		}
	}
	return b
}

func TestWhatOpenTakesIsWhatSealTells(t *testing.T) {
	r := rand.New(rand.NewSource(2))
	pages, roots := 0, 0
	for range 20000 {
		b := sumAgain(damage(r, sealed(t, r.Intn(256), int(r.Int63n(1<<48)), noise(r, api.Room))))
		if kind, gen, content, e := page.Open(b); e == api.OK {
			pages++
			if !bytes.Equal(b, sealed(t, kind, gen, content)) {
				t.Fatalf("Open takes %v", b)
			}
		}
		b = damage(r, sealedRoot(t, 1+int(r.Int63n(1<<62)), noise(r, api.RootRoom)))
		if r.Intn(2) == 0 {
			copy(b[api.Sector-8:], b[:8])
		}
		if gen, content, e := page.OpenRoot(b); e == api.OK {
			roots++
			if !bytes.Equal(b, sealedRoot(t, gen, content)) {
				t.Fatalf("OpenRoot takes %v", b)
			}
		}
	}
	if pages < 1000 || roots < 1000 {
		t.Fatalf("just %d pages and %d roots were taken", pages, roots)
	}
}

// P2.5

func TestOneOtherByteIsNoPage(t *testing.T) {
	for _, b := range [][]byte{
		sealed(t, 1, 2, "ab"),
		sealed(t, 0, 0, ""),
		sealed(t, 255, 1<<48-1, strings.Repeat("\xff", api.Room)),
	} {
		for at := range b {
			was := b[at]
			for c := range 256 {
				if byte(c) != was {
					b[at] = byte(c)
					wantNoPage(t, "one other byte", b)
				}
			}
			b[at] = was
		}
		if _, _, _, e := page.Open(b); e != api.OK {
			t.Fatal("the page itself is refused")
		}
	}
}

// P2.6

// wantTorn holds two roots against each other, torn at every place.
func wantTorn(t *testing.T, a, b []byte) {
	t.Helper()
	for n := range api.Sector + 1 {
		torn := slices.Concat(a[:n], b[n:])
		gen, content, e := page.OpenRoot(torn)
		if e == api.ErrForm {
			continue
		}
		if e != api.OK || !bytes.Equal(torn, a) && !bytes.Equal(torn, b) {
			t.Fatalf("torn at %d = %d, %q, %v, of %v and %v", n, gen, content, e, a, b)
		}
	}
}

func TestTornRoots(t *testing.T) {
	full := strings.Repeat("x", api.RootRoom)
	gens := []int{1, 2, 256, 257, 1 << 32, 1<<32 + 1, 1<<56 + 1, 1<<61 + 1, 1 << 62}
	contents := []string{"", "a", "b", "ab\x00", full, "y" + full[1:]}
	for _, g := range gens {
		for _, h := range gens {
			for _, c := range contents {
				for _, d := range contents {
					if g != h {
						wantTorn(t, sealedRoot(t, g, c), sealedRoot(t, h, d))
					}
				}
			}
		}
	}
}

func TestTornRootsByChance(t *testing.T) {
	r := rand.New(rand.NewSource(3))
	for range 100 {
		g := 1 + int(r.Int63n(1<<61))
		h := g ^ 1<<r.Intn(61)
		if h != 0 {
			wantTorn(t, sealedRoot(t, g, noise(r, api.RootRoom)), sealedRoot(t, h, noise(r, api.RootRoom)))
		}
	}
}
