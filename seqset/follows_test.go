package seqset_test

import (
	"math"
	"math/rand"
	"slices"
	"strings"
	"testing"

	"haversack/api"
	"haversack/seqset"
)

// P12.4 stands in text_test.go. P12.5 is held, too, of all spans that wantSame is asked for.

// P12.5: Norm has what the set has, and is its own Norm.
func TestNormHasWhatTheSetHas(t *testing.T) {
	r := rand.New(rand.NewSource(5))
	for range 10000 {
		l, most := spansByChance(r, 8, 0, 30), r.Intn(35)-2
		norm := seqset.Norm(l, most)
		wantNorm(t, norm, most, norm)
		for n := -2; n <= 40; n++ {
			if seqset.Has(norm, n, most) != seqset.Has(l, n, most) {
				t.Fatalf("Norm(%v, %d) = %v; just one of them has %d", l, most, norm, n)
			}
		}
	}
}

// P12.5: Of the members of a set among 1 to n is Norm of the set cut there.
func TestOfMembers(t *testing.T) {
	r := rand.New(rand.NewSource(7))
	for range 10000 {
		l, most, n := spansByChance(r, 8, 0, 30), r.Intn(35)-2, r.Intn(40)
		among := upTo(n)
		r.Shuffle(len(among), func(i, j int) { among[i], among[j] = among[j], among[i] })
		wantOf(t, seqset.Members(l, most, among...), cutAt(seqset.Norm(l, most), n))
	}
	l := set(api.MaxSpans, 0, 1, 2)
	wantOf(t, seqset.Members(l, 100000, upTo(50000)...), set(1, 2, api.MaxSpans, 50000))
}

// cutAt is spans of Norm without what is above a number.
func cutAt(l []api.Span, n int) []api.Span {
	var cut []api.Span
	for _, s := range l {
		if s.From <= n {
			cut = append(cut, api.Span{From: s.From, To: min(s.To, n)})
		}
	}
	return cut
}

// What Norm and Of tell can be printed, and read again.
func TestNormIsASet(t *testing.T) {
	r := rand.New(rand.NewSource(8))
	for range 5000 {
		for _, l := range [][]api.Span{spansByChance(r, 6, 0, 30), spansAtEdges(r, 6)} {
			if norm := seqset.Norm(l, edges[r.Intn(len(edges))]); len(norm) > 0 {
				wantSet(t, "a Norm", norm...)
			}
		}
	}
	wantSet(t, "an Of", seqset.Of(edges...)...)
}

// What is handed in stays as it was, and what lies behind it, too.
func TestWhatIsHandedInStays(t *testing.T) {
	l := append(make([]api.Span, 0, 8), set(5, 7, 3, 1, 4, 4, 9, 0, 2, 2)...)
	numbers := append(make([]int, 0, 8), 5, 1, 4, 5, 9)
	was, wasNumbers := slices.Clone(l[:8]), slices.Clone(numbers[:8])
	for _, most := range []int{-1, 0, 1, 9, math.MaxInt} {
		seqset.Print(l...)
		seqset.Right(l...)
		seqset.Has(l, 4, most)
		seqset.Members(l, most, numbers...)
		seqset.Norm(l, most)
		seqset.Of(numbers...)
	}
	if !slices.Equal(l[:8], was) || !slices.Equal(numbers[:8], wasNumbers) {
		t.Fatalf("the spans are %v, the numbers are %v", l[:8], numbers[:8])
	}
}

// What is handed out is the caller's own, even where it is the same as what was handed in.
func TestWhatIsHandedOutIsTheCallers(t *testing.T) {
	l, numbers := set(1, 3, 5, 7), upTo(3)
	norm := seqset.Norm(l, 9)
	members := seqset.Members(l, 9, numbers...)
	if !slices.Equal(norm, l) || !slices.Equal(members, numbers) {
		t.Fatalf("they are %v, %v", norm, members)
	}
	clear(norm[:cap(norm)])
	clear(members[:cap(members)])
	if !slices.Equal(l, set(1, 3, 5, 7)) || !slices.Equal(numbers, upTo(3)) {
		t.Fatalf("the spans are %v, the numbers %v", l, numbers)
	}
	of := seqset.Of(numbers...)
	clear(of)
	wantOf(t, numbers, set(1, 3))
	parsed, _ := seqset.Parse("1:3,5")
	clear(parsed)
	wantParse(t, "1:3,5", set(1, 3, 5, 5))
	wantNorm(t, l, 9, set(1, 3, 5, 7))
	wantMembers(t, l, 9, numbers, upTo(3))
}

// P1: long texts and lists.
func TestLong(t *testing.T) {
	const many = 1000000
	for s, wanted := range map[string]api.Errno{
		"1": api.ErrRange, "9": api.ErrRange, "0": api.ErrForm, "*": api.ErrForm, ":": api.ErrForm, ",": api.ErrForm, "1:": api.ErrForm, "1:2:": api.ErrForm,
		"1,": api.ErrForm, ",1": api.ErrForm, "*,": api.ErrForm, " ": api.ErrForm, "\x00": api.ErrForm, "\xff": api.ErrForm,
	} {
		refusedParse(t, "many times", strings.Repeat(s, many/len(s)), wanted)
	}
	for _, s := range []string{"1", "*", "1:2", "*:*", "4294967295"} {
		refusedParse(t, "many spans", spans(many, s), api.ErrMany)
		refusedParse(t, "many spans, the last one too great", spans(many, s)+",4294967296", api.ErrRange)
		refusedParse(t, "many spans, the last one wrong", spans(many, s)+",0", api.ErrForm)
	}
	l, numbers := make([]api.Span, many), make([]int, many)
	for i := range l {
		l[i], numbers[i] = api.Span{From: 3 * (many - i), To: 3*(many-i) + 1}, 3*(many-i)+i%3
	}
	if norm, of := seqset.Norm(l, 1), seqset.Of(numbers...); len(norm) != many || len(of) < many/2 {
		t.Fatalf("there are %d and %d spans", len(norm), len(of))
	}
	if members := seqset.Members(l, 1, numbers...); len(members) != many-many/3 {
		t.Fatalf("there are %d members", len(members))
	}
	wantNoSet(t, "too many", l...)
}

// P1, P2: whatever a call is given, it ends, and the next one of the same answers the same.
func TestAgain(t *testing.T) {
	r := rand.New(rand.NewSource(9))
	for range 5000 {
		l, most := spansAtEdges(r, 6), edges[r.Intn(len(edges))]
		wantNorm(t, l, most, seqset.Norm(l, most))
		wantMembers(t, l, most, edges, seqset.Members(l, most, edges...))
		wantPrint(t, seqset.Print(l...), l...)
		s := chance(r, 5, "1", "*", ":", ",", "4294967296")
		a, e := seqset.Parse(s)
		if b, again := seqset.Parse(s); e != again || !slices.Equal(a, b) {
			t.Fatalf("Parse(%q) is %v, %v, then %v, %v", s, a, e, b, again)
		}
	}
}
