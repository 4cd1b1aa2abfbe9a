package seqset_test

import (
	"math"
	"math/rand"
	"slices"
	"testing"

	"haversack/api"
	"haversack/seqset"
)

// P12.2

func TestHasOfTheExample(t *testing.T) {
	l, _ := seqset.Parse("1:3,*")
	for n := -2; n < 12; n++ {
		wantHas(t, l, n, 7, n >= 1 && n <= 3 || n == 7)
	}
	wantMembers(t, l, 7, upTo(20), []int{1, 2, 3, 7})
}

func TestHas(t *testing.T) {
	for _, c := range []struct {
		why     string
		l       []api.Span
		n, most int
		wanted  bool
	}{
		{"no span", nil, 1, 1, false},
		{"no span, but a list", []api.Span{}, 1, 1, false},
		{"the first one", set(2, 4), 2, 9, true},
		{"the last one", set(2, 4), 4, 9, true},
		{"one between", set(2, 4), 3, 9, true},
		{"one below", set(2, 4), 1, 9, false},
		{"one above", set(2, 4), 5, 9, false},
		{"turned round", set(4, 2), 3, 9, true},
		{"turned round, at an end", set(4, 2), 2, 9, true},
		{"turned round, below", set(4, 2), 1, 9, false},
		{"turned round, above", set(4, 2), 5, 9, false},
		{"alike", set(3, 3), 3, 9, true},
		{"beside one that is alike", set(3, 3), 4, 9, false},
		{"the second span", set(1, 1, 5, 6), 5, 9, true},
		{"between two spans", set(1, 2, 5, 6), 3, 9, false},
		{"above most", set(2, 9), 8, 3, true},
		{"above a most below 1", set(2, 9), 8, 0, true},
		{"above a most below 0", set(2, 9), 8, -5, true},
		{"* is most", set(0, 0), 7, 7, true},
		{"* is just most", set(0, 0), 6, 7, false},
		{"* is most, 1", set(0, 0), 1, 1, true},
		{"* is nothing", set(0, 0), 0, 0, false},
		{"* is nothing", set(0, 0), 1, 0, false},
		{"* is nothing", set(0, 0), -3, -3, false},
		{"up to *", set(3, 0), 5, 7, true},
		{"up to *, at the end", set(3, 0), 7, 7, true},
		{"up to *, beyond", set(3, 0), 8, 7, false},
		{"up to *, below", set(3, 0), 2, 7, false},
		{"from * on", set(0, 3), 5, 7, true},
		{"from * on, at the end", set(0, 3), 3, 7, true},
		{"from * on, beyond", set(0, 3), 2, 7, false},
		{"* below the other end", set(9, 0), 8, 7, true},
		{"* below the other end, at *", set(9, 0), 7, 7, true},
		{"* below the other end, at that", set(9, 0), 9, 7, true},
		{"* below the other end, below *", set(9, 0), 6, 7, false},
		{"* is the other end", set(7, 0), 7, 7, true},
		{"up to a * that is nothing", set(3, 0), 3, 0, false},
		{"from a * that is nothing on", set(0, 3), 3, 0, false},
		{"from a * that is nothing on", set(0, 3), 1, 0, false},
		{"from a * that is below 0 on", set(0, 3), 2, -1, false},
		{"nothing, but another span", set(0, 3, 2, 2), 2, 0, true},
		{"a most above MaxNumber", set(0, 0), api.MaxNumber + 5, api.MaxNumber + 5, true},
		{"a most above MaxNumber, below it", set(1, 0), api.MaxNumber + 4, api.MaxNumber + 5, true},
		{"the greatest most", set(1, 0), math.MaxInt, math.MaxInt, true},
		{"all", set(1, api.MaxNumber), api.MaxNumber, 0, true},
		{"all, and one more", set(1, api.MaxNumber), api.MaxNumber + 1, 0, false},
		{"all, and 0", set(1, api.MaxNumber), 0, 1, false},
		{"from below 0 on", set(-5, 5), 3, 9, true},
		{"from below 0 on, below 1", set(-5, 5), 0, 9, false},
		{"from below 0 on, below 1", set(-5, 5), -3, 9, false},
		{"all below 0", set(-5, -3), -4, 9, false},
		{"above MaxNumber", set(1, math.MaxInt), math.MaxInt, 9, true},
		{"as small and as great as can be", set(math.MaxInt, math.MinInt), 1, 9, true},
	} {
		if got := seqset.Has(c.l, c.n, c.most); got != c.wanted || slowHas(c.l, c.n, c.most) != c.wanted {
			t.Fatalf("%s: Has(%v, %d, %d) = %v; want %v, and of the slow one, too", c.why, c.l, c.n, c.most, got, c.wanted)
		}
	}
}

func TestHasOfEachSmallSpan(t *testing.T) {
	for from := -2; from <= 6; from++ {
		for to := -2; to <= 6; to++ {
			for most := -2; most <= 8; most++ {
				for n := -3; n <= 9; n++ {
					l := set(from, to)
					wantHas(t, l, n, most, slowHas(l, n, most))
				}
			}
		}
	}
}

func TestHasAtEdges(t *testing.T) {
	for _, from := range edges {
		for _, to := range edges {
			for _, most := range edges {
				l := set(from, to)
				for _, n := range edges {
					wantHas(t, l, n, most, slowHas(l, n, most))
				}
				wantMembers(t, l, most, edges, slowMembers(l, most, edges))
			}
		}
	}
}

// slowMembers are those that slowHas tells.
func slowMembers(l []api.Span, most int, among []int) []int {
	return slices.DeleteFunc(slices.Clone(among), func(n int) bool { return !slowHas(l, n, most) })
}

func TestMembers(t *testing.T) {
	for _, c := range []struct {
		l      []api.Span
		most   int
		among  []int
		wanted []int
	}{
		{nil, 9, upTo(9), nil},
		{set(1, 9), 9, nil, nil},
		{set(1, 9), 9, []int{}, nil},
		{nil, 9, nil, nil},
		{set(2, 4), 9, []int{4, 3, 2, 1}, []int{4, 3, 2}},
		{set(2, 4), 9, []int{3, 5, 3, 1, 2, 3}, []int{3, 3, 2, 3}},
		{set(2, 4), 9, []int{9, 9, 1}, nil},
		{set(2, 4, 3, 5, 2, 2), 9, []int{2, 3, 4, 5, 6}, []int{2, 3, 4, 5}},
		{set(8, 8, 1, 2), 9, []int{8, 1, 9, 2, 8}, []int{8, 1, 2, 8}},
		{set(3, 0), 5, []int{7, 5, 3, 2}, []int{5, 3}},
		{set(3, 0), 0, []int{7, 5, 3, 2, 0}, nil},
		{set(0, 0), 5, []int{0, 5, 0, 5, -5}, []int{5, 5}},
		{set(-5, 5), 9, []int{-6, -5, 0, 1, 5, 6}, []int{1, 5}},
		{set(5, 0), api.MaxNumber + 3, []int{4, api.MaxNumber, api.MaxNumber + 1, api.MaxNumber + 3, api.MaxNumber + 4}, []int{api.MaxNumber, api.MaxNumber + 1, api.MaxNumber + 3}},
		{set(1, math.MaxInt), 9, []int{math.MaxInt, math.MinInt, 0, 1}, []int{math.MaxInt, 1}},
	} {
		wantMembers(t, c.l, c.most, c.among, c.wanted)
	}
}

func TestMembersByChance(t *testing.T) {
	r := rand.New(rand.NewSource(2))
	for range 20000 {
		l, most := spansByChance(r, 7, -2, 40), r.Intn(45)-2
		among := make([]int, r.Intn(30))
		for i := range among {
			among[i] = r.Intn(50) - 4
		}
		if r.Intn(4) == 0 {
			l, most, among = spansAtEdges(r, 4), edges[r.Intn(len(edges))], append(among, edges...)
		}
		wantMembers(t, l, most, among, slowMembers(l, most, among))
	}
}

// The chapter bounds sets, but not the spans that are asked here.
func TestMoreSpansThanASetHas(t *testing.T) {
	const many = 3 * api.MaxSpans
	var l []api.Span
	var even []int
	for i := range many {
		n := 2 * (many - i)
		l = append(l, api.Span{From: n, To: n})
		even = append(even, 2*(i+1))
	}
	wantMembers(t, l, 1, upTo(2*many+1), even)
	for _, n := range []int{1, 2, 3, many, many + 1, 2*many - 1, 2 * many, 2*many + 1} {
		wantHas(t, l, n, 1, n%2 == 0 && n <= 2*many)
	}
	slices.Reverse(l)
	wantNorm(t, l, 1, l)
	wantOf(t, even, l)
}

// P12.3

func TestNorm(t *testing.T) {
	const most = api.MaxNumber
	for _, c := range []struct {
		l      []api.Span
		most   int
		wanted []api.Span
	}{
		{set(5, 7, 1, 2, 3, 3), 9, set(1, 3, 5, 7)},
		{nil, 9, nil},
		{[]api.Span{}, 9, nil},
		{set(1, 1), 9, set(1, 1)},
		{set(3, 1), 9, set(1, 3)},
		{set(1, 3, 2, 5), 9, set(1, 5)},
		{set(2, 5, 1, 3), 9, set(1, 5)},
		{set(1, 3, 3, 5), 9, set(1, 5)},
		{set(1, 3, 4, 5), 9, set(1, 5)},
		{set(4, 5, 1, 3), 9, set(1, 5)},
		{set(1, 3, 5, 6), 9, set(1, 3, 5, 6)},
		{set(5, 6, 1, 3), 9, set(1, 3, 5, 6)},
		{set(1, 9, 3, 4), 9, set(1, 9)},
		{set(3, 4, 1, 9), 9, set(1, 9)},
		{set(1, 9, 1, 3, 12, 12), 9, set(1, 9, 12, 12)},
		{set(1, 9, 3, 4, 8, 10), 9, set(1, 10)},
		{set(2, 2, 2, 2, 2, 2), 9, set(2, 2)},
		{set(6, 5, 4, 3, 2, 1), 9, set(1, 6)},
		{set(1, 1, 3, 3, 5, 5, 2, 2, 4, 4), 9, set(1, 5)},
		{set(1, 1, 3, 3, 5, 5, 4, 4), 9, set(1, 1, 3, 5)},
		{set(0, 0), 9, set(9, 9)},
		{set(5, 0), 9, set(5, 9)},
		{set(0, 5), 9, set(5, 9)},
		{set(12, 0), 9, set(9, 12)},
		{set(0, 0, 0, 0), 9, set(9, 9)},
		{set(1, 8, 0, 0), 9, set(1, 9)},
		{set(1, 7, 0, 0), 9, set(1, 7, 9, 9)},
		{set(0, 0), 1, set(1, 1)},
		{set(0, 0), 0, nil},
		{set(0, 0), -1, nil},
		{set(5, 0), 0, nil},
		{set(0, 5), math.MinInt, nil},
		{set(0, 5, 2, 3), 0, set(2, 3)},
		{set(most, most), 9, set(most, most)},
		{set(1, most), 9, set(1, most)},
		{set(most, 0), 9, set(9, most)},
		{set(most-1, most-1, most, most), 9, set(most-1, most)},
		{set(most-2, most-2, most, most), 9, set(most-2, most-2, most, most)},
		{set(most, 0), most + 1, set(most, most)},
		{set(0, 0), most, set(most, most)},
		{set(0, 0), most + 1, nil},
		{set(0, 0), math.MaxInt, nil},
		{set(5, 0), most + 1, set(5, most)},
		{set(5, 0), math.MaxInt, set(5, most)},
		{set(0, 0, 3, 3), math.MaxInt, set(3, 3)},
		{set(5, 0, 7, 9), math.MaxInt, set(5, most)},
		{set(most, most+1), 9, set(most, most)},
		{set(most+1, most+2), 9, nil},
		{set(math.MaxInt, math.MaxInt, math.MaxInt-1, 4), 9, set(4, most)},
		{set(-5, 5), 9, set(1, 5)},
		{set(-5, 1), 9, set(1, 1)},
		{set(-5, 0), 9, set(1, 9)},
		{set(-5, -3), 9, nil},
		{set(math.MinInt, math.MinInt), 9, nil},
		{set(math.MinInt, math.MaxInt), 9, set(1, most)},
	} {
		wantNorm(t, c.l, c.most, c.wanted)
		wantSame(t, c.l, c.most)
	}
}

// In whatever order spans stand, Norm is the same.
func TestNormOfEachOrder(t *testing.T) {
	l := set(1, 2, 4, 4, 6, 5, 9, 0, 12, 12)
	var order func(done, left []api.Span)
	order = func(done, left []api.Span) {
		if len(left) == 0 {
			wantNorm(t, done, 10, set(1, 2, 4, 6, 9, 10, 12, 12))
		}
		for i := range left {
			others := append(slices.Clone(left[:i]), left[i+1:]...)
			order(append(slices.Clone(done), left[i]), others)
		}
	}
	order(nil, l)
}

func TestNormOfEachTwoSmallSpans(t *testing.T) {
	for a := range 7 {
		for b := range 7 {
			for c := range 7 {
				for d := range 7 {
					for most := -1; most <= 7; most++ {
						l := set(a, b, c, d)
						wantNorm(t, l, most, slowNorm(l, most, 10))
					}
				}
			}
		}
	}
}

func TestNormByChance(t *testing.T) {
	r := rand.New(rand.NewSource(3))
	for range 20000 {
		l, most := spansByChance(r, 9, -2, 40), r.Intn(45)-2
		wantNorm(t, l, most, slowNorm(l, most, 50))
	}
	for range 20000 {
		wantSame(t, spansByChance(r, 5, 0, 20), r.Intn(25)-2)
		wantSame(t, spansAtEdges(r, 5), edges[r.Intn(len(edges))])
		wantSame(t, spansByChance(r, 5, api.MaxNumber-20, api.MaxNumber+5), api.MaxNumber-10+r.Intn(15))
	}
	for range 300 {
		wantSame(t, spansByChance(r, 50, 0, api.MaxNumber), r.Intn(api.MaxNumber))
	}
}

func TestOf(t *testing.T) {
	const most = api.MaxNumber
	for _, c := range []struct {
		numbers []int
		wanted  []api.Span
	}{
		{[]int{3, 1, 2, 9}, set(1, 3, 9, 9)},
		{nil, nil},
		{[]int{}, nil},
		{[]int{1}, set(1, 1)},
		{[]int{1, 1, 1}, set(1, 1)},
		{[]int{1, 2}, set(1, 2)},
		{[]int{2, 1}, set(1, 2)},
		{[]int{1, 3}, set(1, 1, 3, 3)},
		{[]int{3, 1, 3, 1}, set(1, 1, 3, 3)},
		{[]int{5, 4, 3, 2, 1}, set(1, 5)},
		{[]int{1, 3, 5, 2}, set(1, 3, 5, 5)},
		{[]int{0}, nil},
		{[]int{-1}, nil},
		{[]int{0, 1}, set(1, 1)},
		{[]int{-1, 0, 1, 2}, set(1, 2)},
		{[]int{math.MinInt, -most, 7}, set(7, 7)},
		{[]int{most}, set(most, most)},
		{[]int{most + 1}, nil},
		{[]int{most + 1, most, most - 1}, set(most-1, most)},
		{[]int{math.MaxInt, 1}, set(1, 1)},
		{[]int{most, 1}, set(1, 1, most, most)},
		{edges, set(1, 3, 1000, 1000, most-2, most)},
	} {
		wantOf(t, c.numbers, c.wanted)
	}
}

func TestOfByChance(t *testing.T) {
	r := rand.New(rand.NewSource(6))
	for range 20000 {
		numbers := make([]int, r.Intn(30))
		var l []api.Span
		for i := range numbers {
			numbers[i] = r.Intn(50) - 4
			if numbers[i] != 0 {
				l = append(l, api.Span{From: numbers[i], To: numbers[i]})
			}
		}
		wantOf(t, numbers, slowNorm(l, 0, 50))
	}
}
