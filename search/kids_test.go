package search_test

import (
	"math/rand"
	"testing"

	"haversack/api"
	"haversack/search"
)

// P16.3, of keys that are about others, and all of it by chance.

func TestNot(t *testing.T) {
	wantOne(t, "without a kid", about("NOT"), of(""), false)
	wantOne(t, "without a kid", api.Key{Op: "NOT", Kids: []api.Key{}, Text: "x", N: 5, Set: ranged("", 1, 1).Set}, of(""), false)
	wantMatch(t, "with one", about("NOT", yes), of(""), false)
	wantMatch(t, "with one", about("NOT", no), of(""), true)
	for _, more := range [][]api.Key{{yes}, {no}, {yes, no}, {no, yes, no}, {about("NOT")}} {
		wantMatch(t, "the first one counts", about("NOT", append([]api.Key{yes}, more...)...), of(""), false)
		wantMatch(t, "the first one counts", about("NOT", append([]api.Key{no}, more...)...), of(""), true)
	}
	wantMatch(t, "of one without a kid", about("NOT", about("NOT")), of(""), true)
}

func TestOrAndAnd(t *testing.T) {
	wantMatch(t, "without kids", about("OR"), of(""), false)
	wantMatch(t, "without kids", about("AND"), of(""), true)
	wantMatch(t, "without kids", api.Key{Op: "OR", Kids: []api.Key{}, Text: "x"}, of("x"), false)
	wantMatch(t, "without kids", api.Key{Op: "AND", Kids: []api.Key{}, Text: "x"}, of(""), true)
	for many := 1; many <= 6; many++ {
		for which := range 1 << many {
			var kids []api.Key
			for i := range many {
				if which>>i&1 == 1 {
					kids = append(kids, yes)
				} else {
					kids = append(kids, no)
				}
			}
			wantMatch(t, "several", about("OR", kids...), of(""), which > 0)
			wantMatch(t, "several", about("AND", kids...), of(""), which == 1<<many-1)
			wantMatch(t, "several", about("NOT", kids...), of(""), which&1 == 0)
		}
	}
}

// The kids are asked of the same message, and of the same numbers.
func TestKidsOfAMessage(t *testing.T) {
	p := place{api.Mail{UID: 7, Flags: flags(`\seen`, "x"), Date: someDays[0], Text: "Subject: =?utf-8?q?a_b?=" + end + "To: c" + end + end + "body"}, 3, 5, 9}
	matching := []api.Key{op("SEEN", ""), op("UNDRAFT", ""), op("KEYWORD", "x"), op("SUBJECT", "A B"), op("TO", "c"), within("to", "c"), op("BODY", "bod"), op("TEXT", "=?utf"), counted("ON", 9694), counted("LARGER", 10), ranged("SEQ", 3, 3), ranged("UID", 0, 5), ranged("SEQ", 0, 3), ranged("UID", 7, 0)}
	var others []api.Key
	for _, k := range matching {
		wantMatch(t, "one", k, p, true)
		others = append(others, about("NOT", k))
		wantMatch(t, "one, deeper", about("AND", about("OR", k), about("AND", k)), p, true)
	}
	wantMatch(t, "all", about("AND", matching...), p, true)
	wantMatch(t, "all", about("NOT", about("AND", matching...)), p, false)
	wantMatch(t, "none", about("OR", others...), p, false)
	wantMatch(t, "all but one", about("AND", append(matching, others[0])...), p, false)
	wantMatch(t, "just one", about("OR", append(others, matching[0])...), p, true)
}

// nested is a key in so many others, of which word's turn it is.
func nested(k api.Key, deep int, words ...string) api.Key {
	for i := range deep {
		k = about(words[i%len(words)], k)
	}
	return k
}

func TestDeepKeys(t *testing.T) {
	t.Parallel()
	p := of("x")
	for _, deep := range []int{1, 2, 7, 8, 9, 100, 1001, 1<<16 - 2, 1<<16 - 1, 1 << 16} {
		for _, k := range []api.Key{op("TEXT", "X"), op("TEXT", "y")} {
			is := k.Text == "X"
			for words, wanted := range map[string]bool{"OR": is, "AND": is, "NOT": is == (deep%2 == 0)} {
				if got := match(nested(k, deep, words), p); got != wanted {
					t.Fatalf("Match of %s in %d %s is %t", tell(k), deep, words, got)
				}
			}
			if got, wanted := match(nested(k, deep, "OR", "AND"), p), is; got != wanted {
				t.Fatalf("Match of %s in %d by turns is %t", tell(k), deep, got)
			}
			if got, wanted := match(nested(k, deep, "OR", "NOT"), p), is == (deep/2%2 == 0); got != wanted {
				t.Fatalf("Match of %s in %d by turns with NOT is %t", tell(k), deep, got)
			}
		}
	}
	wide := about("OR", nested(no, 60000, "AND"), nested(yes, 60000, "AND"), no)
	for range 20 {
		wide = about("AND", wide, nested(yes, 60000, "OR"), wide.Kids[1])
	}
	if !match(wide, p) {
		t.Fatal("one that is deep in several places does not match")
	}
}

// Keys that are their own kids lie in more than 2^16 others: just that it ends is promised.
func TestKeysThatAreTheirOwnKids(t *testing.T) {
	t.Parallel()
	words := []string{"NOT", "OR", "AND"}
	for _, a := range words {
		for _, b := range words {
			for _, ahead := range [][]api.Key{nil, {yes}, {no}, {yes, no}, {no, no}} {
				kids := append(append([]api.Key{}, ahead...), about(a), about(b), yes, no)
				kids[len(ahead)].Kids = kids
				kids[len(ahead)+1].Kids = kids
				for _, k := range []api.Key{about(a, kids...), about(b, kids...), {Op: "OR", Kids: kids[len(ahead):]}, {Op: "AND", Kids: kids}} {
					if match(k, of("")) != match(k, of("")) {
						t.Fatalf("Match of %s in %s with %d ahead is not the same again", a, b, len(ahead))
					}
				}
			}
		}
	}
}

func TestManyKids(t *testing.T) {
	t.Parallel()
	kids := make([]api.Key, 200000)
	for i := range kids {
		kids[i] = counted("LARGER", i)
	}
	for _, p := range []place{of("x"), of("")} {
		if search.Match(about("OR", kids...), p.Mail, 1, 1, 1) != (p.Text == "x") || search.Match(about("AND", kids...), p.Mail, 1, 1, 1) {
			t.Fatalf("many kids of %s", tell(p))
		}
	}
	if !match(about("AND", kids[:1000]...), of(times("x", 1000))) || match(about("AND", kids[:1001]...), of(times("x", 1000))) {
		t.Fatal("many kids of a long text")
	}
}

// Messages and keys by chance, of few pieces, so that they often meet.

func textByChance(r *rand.Rand) string {
	head := chance(r, 6, "To: a"+end, "to: =?utf-8?q?A_b?="+end, "CC:b"+end, "Bcc: a@b\n", "From: "+end, "FROM:a"+end, "subject: ab"+end, "Subject: b"+end, " a"+end, "\tb\n", "x: "+end, "x"+end, "Date: 2 Jan 1970 23:00 -0500"+end, "Date: 12 Jan 1970 00:00:00 +0000"+end, "date: x"+end, "DATE: 31 Dec 1969 00:00 GMT\n")
	return head + chance(r, 3, end, "\n", "a", "B", "to: a"+end)
}

func placeByChance(r *rand.Rand) place {
	d := api.Date{Year: one(r, 1970, 1970, 1969), Month: one(r, 1, 1, 12, 13), Day: r.Intn(15), Hour: r.Intn(24), Zone: r.Intn(100) - 50}
	return place{api.Mail{UID: r.Intn(9), Flags: some(r, 6, someFlags...), Date: d, Text: textByChance(r), Size: r.Intn(50)}, r.Intn(7), r.Intn(7), r.Intn(9)}
}

func keyByChance(r *rand.Rand, deep int) api.Key {
	word := one(r, allWords...)
	if r.Intn(40) == 0 {
		word = one(r, "", "seen", "All", "UNALL", "SENT", "DATE")
	}
	k := api.Key{Op: word, Text: one(r, "", "a", "B", "ab", "a b", "@", "a", "b", `\seen`, "é", end), Field: one(r, "to", "TO", "x", "", "date", "subject"), N: one(r, -1, 0, 1, 2, 5, 10, 11, 12, 30, 60)}
	for range r.Intn(3) {
		k.Set = append(k.Set, api.Span{From: r.Intn(8), To: r.Intn(8)})
	}
	if deep > 0 {
		if r.Intn(2) == 0 {
			k.Op = one(r, "AND", "OR", "NOT")
		}
		for range r.Intn(4) {
			k.Kids = append(k.Kids, keyByChance(r, deep-1))
		}
	}
	return k
}

func TestMatchByChance(t *testing.T) {
	t.Parallel()
	r := rand.New(rand.NewSource(163))
	met := map[string]int{}
	for range 60000 {
		p, k := placeByChance(r), keyByChance(r, r.Intn(4))
		is := slowMatch(k, p)
		wantMatch(t, "by chance", k, p, is)
		if is {
			met[k.Op]++
		}
	}
	for _, word := range allWords {
		if met[word] < 20 {
			t.Errorf("%s matches just %d times", word, met[word])
		}
	}
}
