package seqset_test

import (
	"math"
	"math/big"
	"math/rand"
	"regexp"
	"slices"
	"strings"
	"testing"

	"haversack/api"
	"haversack/seqset"
)

// set is spans of numbers, two by two.
func set(ends ...int) []api.Span {
	var l []api.Span
	for i := 0; i < len(ends); i += 2 {
		l = append(l, api.Span{From: ends[i], To: ends[i+1]})
	}
	return l
}

// upTo is the numbers from 1 to one.
func upTo(n int) []int {
	var l []int
	for i := range n {
		l = append(l, i+1)
	}
	return l
}

// edges are numbers at which something changes, and those beside them.
var edges = []int{
	math.MinInt, math.MinInt + 1, -api.MaxNumber - 1, -api.MaxNumber, -2, -1, 0, 1, 2, 3, 1000,
	api.MaxNumber - 2, api.MaxNumber - 1, api.MaxNumber, api.MaxNumber + 1, api.MaxNumber + 2, math.MaxInt - 1, math.MaxInt,
}

// eachText goes through all texts of some signs, up to so many of them.
func eachText(signs []string, most int, do func(s string)) {
	var longer func(s string, more int)
	longer = func(s string, more int) {
		do(s)
		if more > 0 {
			for _, sign := range signs {
				longer(s+sign, more-1)
			}
		}
	}
	longer("", most)
}

// eachNear goes through a text with each byte at each place as another one, as one more, or left out, and cut off there.
func eachNear(s string, do func(near string)) {
	for at := range len(s) + 1 {
		do(s[:at])
		do(s[at:])
		for b := range 256 {
			one := string([]byte{byte(b)})
			do(s[:at] + one + s[at:])
			if at < len(s) {
				do(s[:at] + one + s[at+1:])
			}
		}
		if at < len(s) {
			do(s[:at] + s[at+1:])
		}
	}
}

// chance is a text of some pieces, up to so many.
func chance(r *rand.Rand, most int, pieces ...string) string {
	var s strings.Builder
	for range r.Intn(most + 1) {
		s.WriteString(pieces[r.Intn(len(pieces))])
	}
	return s.String()
}

// spansByChance are up to so many, with ends from least to most.
func spansByChance(r *rand.Rand, many, least, most int) []api.Span {
	l := make([]api.Span, r.Intn(many+1))
	for i := range l {
		l[i] = api.Span{From: least + r.Intn(most-least+1), To: least + r.Intn(most-least+1)}
		if r.Intn(3) == 0 {
			l[i].To = l[i].From + r.Intn(3)
		}
	}
	return l
}

// spansAtEdges are up to so many, with ends that are edges.
func spansAtEdges(r *rand.Rand, many int) []api.Span {
	l := make([]api.Span, r.Intn(many+1))
	for i := range l {
		l[i] = api.Span{From: edges[r.Intn(len(edges))], To: edges[r.Intn(len(edges))]}
	}
	return l
}

var slowForm = regexp.MustCompile(`\A(?:\*|[1-9][0-9]*)(?::(?:\*|[1-9][0-9]*))?\z`)

// slowEnd is a span's number, and whether it is no greater than MaxNumber.
func slowEnd(s string) (int, bool) {
	if s == "*" {
		return 0, true
	}
	n, _ := new(big.Int).SetString(s, 10)
	return int(n.Int64()), n.Cmp(big.NewInt(api.MaxNumber)) <= 0
}

// slowParse parts a text at its commas first, and asks for the errors one behind the other.
func slowParse(s string) ([]api.Span, api.Errno) {
	texts := strings.Split(s, ",")
	for _, text := range texts {
		if !slowForm.MatchString(text) {
			return nil, api.ErrForm
		}
	}
	var l []api.Span
	for _, text := range texts {
		ends := strings.Split(text, ":")
		from, is := slowEnd(ends[0])
		to, also := slowEnd(ends[len(ends)-1])
		if !is || !also {
			return nil, api.ErrRange
		}
		l = append(l, api.Span{From: from, To: to})
	}
	if len(l) > api.MaxSpans {
		return nil, api.ErrMany
	}
	return l, api.OK
}

// slowHas goes by the chapter's words, end by end.
func slowHas(l []api.Span, n, most int) bool {
	if n < 1 {
		return false
	}
	for _, s := range l {
		if s.From == 0 || s.To == 0 {
			if most < 1 {
				continue
			}
			if s.From == 0 {
				s.From = most
			}
			if s.To == 0 {
				s.To = most
			}
		}
		if s.From <= n && n <= s.To || s.To <= n && n <= s.From {
			return true
		}
	}
	return false
}

// slowNorm asks number by number, from 1 to one that is far enough.
func slowNorm(l []api.Span, most, far int) []api.Span {
	var norm []api.Span
	for n := 1; n <= far; n++ {
		switch {
		case !slowHas(l, n, most):
		case n > 1 && slowHas(l, n-1, most):
			norm[len(norm)-1].To = n
		default:
			norm = append(norm, api.Span{From: n, To: n})
		}
	}
	return norm
}

// beside are the numbers at the ends of spans, and beside them: what some spans cover changes nowhere else.
func beside(l []api.Span, most int) []int {
	numbers := []int{1, 2, api.MaxNumber - 1, api.MaxNumber}
	add := func(n int) {
		for _, near := range []int{n - 1, n, n + 1} { // where these wrap round, they are just two numbers more
			numbers = append(numbers, near)
		}
	}
	add(most)
	for _, s := range l {
		add(s.From)
		add(s.To)
	}
	return numbers
}

func wantParse(t *testing.T, s string, wanted []api.Span) {
	t.Helper()
	if l, e := seqset.Parse(s); !slices.Equal(l, wanted) || e != api.OK {
		t.Fatalf("Parse(%q) = %v, %v; want %v", s, l, e, wanted)
	}
}

func refusedParse(t *testing.T, why, s string, wanted api.Errno) {
	t.Helper()
	if l, e := seqset.Parse(s); len(l) != 0 || e != wanted {
		t.Fatalf("%s: Parse(%.200q) = %v, %v; want none, %v", why, s, l, e, wanted)
	}
}

// asSlow holds Parse of a text against the slow reader, and against P12.4.
func asSlow(t *testing.T, s string) api.Errno {
	t.Helper()
	wanted, e := slowParse(s)
	if e != api.OK {
		refusedParse(t, "as the slow reader", s, e)
		return e
	}
	wantParse(t, s, wanted)
	wantBack(t, wanted)
	if got := seqset.Print(wanted...); (got == s) == twice(s) {
		t.Fatalf("Print of Parse(%q) is %q", s, got)
	}
	return e
}

// twice tells whether a set's text has a span that is written as two numbers that are alike.
func twice(s string) bool {
	return slices.ContainsFunc(strings.Split(s, ","), func(span string) bool {
		from, to, is := strings.Cut(span, ":")
		return is && from == to
	})
}

// wantBack: P12.4, of a set.
func wantBack(t *testing.T, l []api.Span) {
	t.Helper()
	wantParse(t, seqset.Print(l...), l)
}

func wantPrint(t *testing.T, wanted string, l ...api.Span) {
	t.Helper()
	if got := seqset.Print(l...); got != wanted {
		t.Fatalf("Print(%v) = %.200q; want %.200q", l, got, wanted)
	}
}

// wantNoSet: spans that are none are neither right nor printed.
func wantNoSet(t *testing.T, why string, l ...api.Span) {
	t.Helper()
	if seqset.Right(l...) {
		t.Fatalf("%s: Right(%v)", why, l)
	}
	wantPrint(t, "", l...)
}

func wantSet(t *testing.T, why string, l ...api.Span) {
	t.Helper()
	if !seqset.Right(l...) {
		t.Fatalf("%s: Right(%v) is false", why, l)
	}
	wantBack(t, l)
}

func wantHas(t *testing.T, l []api.Span, n, most int, wanted bool) {
	t.Helper()
	if got := seqset.Has(l, n, most); got != wanted {
		t.Fatalf("Has(%v, %d, %d) = %v", l, n, most, got)
	}
}

func wantMembers(t *testing.T, l []api.Span, most int, among, wanted []int) {
	t.Helper()
	if got := seqset.Members(l, most, among...); !slices.Equal(got, wanted) {
		t.Fatalf("Members(%v, %d, %v) = %v; want %v", l, most, among, got, wanted)
	}
}

func wantNorm(t *testing.T, l []api.Span, most int, wanted []api.Span) {
	t.Helper()
	if got := seqset.Norm(l, most); !slices.Equal(got, wanted) {
		t.Fatalf("Norm(%v, %d) = %v; want %v", l, most, got, wanted)
	}
}

func wantOf(t *testing.T, numbers []int, wanted []api.Span) {
	t.Helper()
	if got := seqset.Of(numbers...); !slices.Equal(got, wanted) {
		t.Fatalf("Of(%v) = %v; want %v", numbers, got, wanted)
	}
}

// wantRising: spans of messages' numbers, with one that is not covered between each two.
func wantRising(t *testing.T, l []api.Span) {
	t.Helper()
	for i, s := range l {
		if s.From < 1 || s.From > s.To || s.To > api.MaxNumber || i > 0 && s.From <= l[i-1].To+1 {
			t.Fatalf("%v do not rise", l)
		}
	}
}

// wantSame: P12.3 and P12.5, of Norm: it covers what the spans cover, whatever most is then, and is its own Norm.
func wantSame(t *testing.T, l []api.Span, most int) {
	t.Helper()
	norm := seqset.Norm(l, most)
	wantRising(t, norm)
	for _, other := range []int{most, 0, 1, math.MaxInt} {
		wantNorm(t, norm, other, norm)
	}
	for _, n := range beside(append(slices.Clone(norm), l...), most) {
		wanted := slowHas(l, n, most) && n <= api.MaxNumber
		wantHas(t, norm, n, most, wanted)
		wantHas(t, norm, n, 0, wanted)
	}
}
