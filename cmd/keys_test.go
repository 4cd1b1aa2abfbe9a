package cmd_test

import (
	"math/rand"
	"strconv"
	"strings"
	"testing"

	"haversack/api"
	"haversack/date"
)

// P14.1: what SEARCH asks for.

var (
	bareKeys   = []string{"ALL", "ANSWERED", "DELETED", "DRAFT", "FLAGGED", "SEEN", "UNANSWERED", "UNDELETED", "UNDRAFT", "UNFLAGGED", "UNSEEN"}
	atomKeys   = []string{"KEYWORD", "UNKEYWORD"}
	textKeys   = []string{"BCC", "BODY", "CC", "FROM", "SUBJECT", "TEXT", "TO"}
	dayKeys    = []string{"BEFORE", "ON", "SINCE", "SENTBEFORE", "SENTON", "SENTSINCE"}
	numberKeys = []string{"LARGER", "SMALLER"}
)

func key(op string, kids ...api.Key) api.Key { return api.Key{Op: op, Kids: kids} }

// oneOfEach has each kind of key, whose words are great.
var oneOfEach = func() map[string]api.Key {
	all := map[string]api.Key{
		"HEADER 1 2":  {Op: "HEADER", Field: "1", Text: "2"},
		"UID 1:*":     {Op: "UID", Set: set(1, 0)},
		"1:2,*":       {Op: "SEQ", Set: set(1, 2, 0, 0)},
		"*":           {Op: "SEQ", Set: set(0, 0)},
		"NOT ALL":     key("NOT", key("ALL")),
		"OR ALL SEEN": key("OR", key("ALL"), key("SEEN")),
		"(ALL)":       key("AND", key("ALL")),
		"(ALL 7)":     key("AND", key("ALL"), api.Key{Op: "SEQ", Set: set(7, 7)}),
	}
	for _, word := range bareKeys {
		all[word] = key(word)
	}
	for _, word := range append(atomKeys, textKeys...) {
		all[word+" 3"] = api.Key{Op: word, Text: "3"}
	}
	for _, word := range dayKeys {
		all[word+" 1-FEB-1994"] = api.Key{Op: word, N: 8797}
	}
	for _, word := range numberKeys {
		all[word+" 4"] = api.Key{Op: word, N: 4}
	}
	return all
}()

func TestEachKey(t *testing.T) {
	for s, k := range oneOfEach {
		for _, letters := range []func(byte) byte{great, small, mixed} {
			s := inLetters(s, letters)
			wantCommand(t, "a key", rawOf("a SEARCH "+s), searching(k))
			wantCommand(t, "a key within NOT", rawOf("a SEARCH not "+s), searching(key("NOT", k)))
			wantCommand(t, "a key within OR", rawOf("a SEARCH or "+s+" SEEN"), searching(key("OR", k, key("SEEN"))))
			wantCommand(t, "a key within OR", rawOf("a SEARCH or SEEN "+s), searching(key("OR", key("SEEN"), k)))
			wantCommand(t, "a key within ( )", rawOf("a SEARCH ("+s+")"), searching(key("AND", k)))
			wantCommand(t, "a key within ( )", rawOf("a SEARCH (SEEN "+s+" SEEN)"), searching(key("AND", key("SEEN"), k, key("SEEN"))))
			wantCommand(t, "three keys", rawOf("a SEARCH SEEN "+s+" SEEN"), searching(key("SEEN"), k, key("SEEN")))
			c := searching(k, k)
			c.UID = true
			wantCommand(t, "a key twice", rawOf("a UID SEARCH "+s+" "+s), c)
		}
		word, _, _ := strings.Cut(s, " ")
		for _, other := range []string{s + "X", s + " ", s + ")", "(" + s, s + "]", "X" + s, s + "  SEEN", `"` + s + `"`, "[" + s + "]", s + " (", "( " + s + ")", "(" + s + " )", word + " ", "NOT", "NOT " + word + " NOT", "OR " + s, "()" + s, s + "()", s + "(SEEN)", "(SEEN)" + s} {
			asSlow(t, rawOf("a SEARCH "+other)) // X belongs to what some of them tell
		}
		for other := range oneOfEach {
			wantCommand(t, "two keys", rawOf("a SEARCH "+s+" "+other), searching(k, oneOfEach[other]))
			asSlow(t, rawOf("a SEARCH "+s+other))
		}
	}
}

func TestKeysThatAreNone(t *testing.T) {
	for _, s := range []string{
		"", "SEQ 1", "SEQ", "AND", "AND ALL", "AND (ALL)", "NEW", "OLD", "RECENT", "UNKEY x", "ALL,SEEN", "ALLX", "XALL", "AL", "CHARSET UTF-8 ALL", "RETURN (ALL) ALL", "MODSEQ 1", "OLDER 1", "EMAILID x", "$",
		"()", "( )", "(", ")", "(ALL", "ALL)", "(ALL))", "((ALL)", "( ALL)", "(ALL )", "(ALL  SEEN)", "(ALL)(SEEN)", "ALL  SEEN", " ALL", "(ALL) ", `"ALL"`, "[ALL]", `\ALL`, "{", "%", "**", "1 ,2",
		"NOT", "NOT ", "NOTALL", "NOT(ALL)", "NOT  ALL", "NOT ()", "NOT NOT", "OR", "OR ", "OR ALL", "OR ALL ", "OR ALL  SEEN", "OR (ALL SEEN)", "OR(ALL) SEEN", "OR ALL(SEEN)", "OR OR ALL SEEN", "OR () ALL", "NOT OR ALL",
		"KEYWORD", "KEYWORD ", "KEYWORD (x)", `KEYWORD \Seen`, "KEYWORD x]", "KEYWORD  x", "BODY", "BODY ", "BODY (x)", "BODY %", "BODY  x", "BODY x y", `BODY "x`, "TEXT[x]y", "HEADER", "HEADER ", "HEADER x", "HEADER x ", "HEADER x  y", "HEADER  x y", "HEADER (x) y", "HEADER x y z",
		"LARGER", "LARGER ", "LARGER x", "LARGER -1", "LARGER +1", "LARGER 01", "LARGER 00", "LARGER 4294967296", "LARGER " + times("9", 100), "LARGER 1:2", "LARGER 1.5", `LARGER "1"`, "LARGER (1)", "LARGER  1", "LARGER 1x", "LARGER *",
		"UID", "UID ", "UID x", "UID ALL", "UID 0", "UID 1,", "UID  1", "UID (1)", `UID "1"`, "0", "01", "1,", ",1", "1:", ":1", "1:2:3", "1x", "4294967296", "1,0",
	} {
		refused(t, "no keys", rawOf("a SEARCH "+s), "a")
	}
	refused(t, "no blank", rawOf("a SEARCH(ALL)"), "a")
}

func TestTextsOfKeys(t *testing.T) {
	for text, said := range map[string]string{
		"x": "x", "X]": "X]", `"x y"`: "x y", `""`: "", `"\"\\"`: `"\`, "\"\x80\"": "\x80", "NOT": "NOT", "ALL": "ALL", "1": "1", "&": "&", "inbox": "inbox", "&AOk-": "&AOk-", `"NOT (ALL)"`: "NOT (ALL)", times("x", 300): times("x", 300),
	} {
		for _, word := range textKeys {
			wantCommand(t, "a text", rawOf("a SEARCH "+word+" "+text+" ALL"), searching(api.Key{Op: word, Text: said}, key("ALL")))
			wantCommand(t, "a literal", rawOf("a SEARCH "+word+" ", said, ""), searching(api.Key{Op: word, Text: said}))
			wantCommand(t, "a literal within ( )", rawOf("a SEARCH (NOT "+word+" ", said, ")"), searching(key("AND", key("NOT", api.Key{Op: word, Text: said}))))
		}
		wantCommand(t, "a field", rawOf("a SEARCH HEADER "+text+" x"), searching(api.Key{Op: "HEADER", Field: said, Text: "x"}))
		wantCommand(t, "a field's text", rawOf("a SEARCH HEADER x "+text), searching(api.Key{Op: "HEADER", Field: "x", Text: said}))
		wantCommand(t, "a field's text, and a literal", rawOf("a SEARCH HEADER ", "l", " "+text+" ALL"), searching(api.Key{Op: "HEADER", Field: "l", Text: said}, key("ALL")))
	}
}

func TestNumbers(t *testing.T) {
	for text, n := range map[string]int{"0": 0, "1": 1, "10": 10, "4294967295": 1<<32 - 1, "4294967294": 1<<32 - 2} {
		for _, word := range numberKeys {
			wantCommand(t, "a number", rawOf("a SEARCH "+word+" "+text), searching(api.Key{Op: word, N: n}))
		}
		for _, tail := range []string{"x", ".", ",", ":", "]", "*", "+"} {
			refused(t, "no number", rawOf("a SEARCH LARGER "+text+tail), "a")
			refused(t, "no number", rawOf("a SEARCH LARGER "+tail+text), "a")
		}
		for _, ahead := range []string{"0", "00", "+", "-", "9999999999"} {
			refused(t, "no number", rawOf("a SEARCH SMALLER "+ahead+text), "a")
		}
	}
	for _, digits := range []int{11, 19, 20, 21, 100, 4000} {
		refused(t, "many digits", rawOf("a SEARCH LARGER 1"+times("0", digits-1)), "a")
	}
	refused(t, "2^64", rawOf("a SEARCH LARGER 18446744073709551616"), "a")
	refused(t, "2^64 + 1", rawOf("a SEARCH LARGER 18446744073709551617"), "a")
}

func TestDays(t *testing.T) {
	for text, n := range map[string]int{
		"1-Feb-1994": 8797, "01-Feb-1994": 8797, "1-feb-1994": 8797, "1-FEB-1994": 8797, "31-Dec-9999": date.Days(9999, 12, 31), "1-Jan-0001": date.Days(1, 1, 1), "29-Feb-2000": date.Days(2000, 2, 29), "1-Jan-1970": 0, "31-dec-1969": -1,
	} {
		for _, word := range dayKeys {
			wantCommand(t, "a day", rawOf("a SEARCH "+word+" "+text+" ALL"), searching(api.Key{Op: word, N: n}, key("ALL")))
			wantCommand(t, "a day, quoted", rawOf("a SEARCH "+word+` "`+text+`"`), searching(api.Key{Op: word, N: n}))
			wantCommand(t, "a day within ( )", rawOf("a SEARCH ("+word+" "+text+")"), searching(key("AND", api.Key{Op: word, N: n})))
			refused(t, "a literal", rawOf("a SEARCH "+word+" ", text, ""), "a")
		}
	}
	for _, text := range []string{
		"", `""`, "1", "x", "29-Feb-1994", "29-Feb-1900", "31-Apr-1994", "0-Feb-1994", "00-Feb-1994", "32-Jan-1994", "001-Jan-1994", "1-Jan-0000", "1-Jan-94", "1-Jan-19940", "1-January-1994", "1-1-1994", "1 Feb 1994", `"1 Feb 1994"`, "1-Feb-1994]", "1-Feb-1994 00:00:00", "-Feb-1994", "1-Fob-1994", "1-Feb-",
		`" 1-Feb-1994"`, `"1-Feb-1994 "`, `"1-Feb-1994`, `1-Feb-1994"`, `"\1-Feb-1994"`, "(1-Feb-1994)", "1994-02-01", "-1-Feb-1994", "1-Feb--994",
	} {
		for _, word := range dayKeys {
			refused(t, "no day", rawOf("a SEARCH "+word+" "+text), "a")
		}
	}
}

// A search has at most MaxKeys keys, its own AND among them.
func TestManyKeys(t *testing.T) {
	seen := func(many int) []api.Key {
		var l []api.Key
		for range many {
			l = append(l, key("SEEN"))
		}
		return l
	}
	row := func(many int) string { return "SEEN" + times(" SEEN", many-1) }
	for _, c := range []struct {
		why, keys string
		wanted    func(most int) []api.Key
		ahead     int // how many keys there are beside those that are SEEN, with the search's own AND
	}{
		{"in a row", "%", seen, 1},
		{"within ( )", "(%)", func(n int) []api.Key { return []api.Key{key("AND", seen(n)...)} }, 2},
		{"behind NOT", "NOT ALL %", func(n int) []api.Key { return append([]api.Key{key("NOT", key("ALL"))}, seen(n)...) }, 3},
		{"behind ( )", "((1)) %", func(n int) []api.Key {
			return append([]api.Key{key("AND", key("AND", api.Key{Op: "SEQ", Set: set(1, 1)}))}, seen(n)...)
		}, 4},
		{"ahead of OR", "% OR 1 1", func(n int) []api.Key {
			one := api.Key{Op: "SEQ", Set: set(1, 1)}
			return append(seen(n), key("OR", one, one))
		}, 4},
	} {
		most := api.MaxKeys - c.ahead
		for _, many := range []int{1, most - 1, most} {
			wantCommand(t, c.why, rawOf("a SEARCH "+strings.Replace(c.keys, "%", row(many), 1)), searching(c.wanted(many)...))
		}
		for _, many := range []int{most + 1, most + 2, 2 * most} {
			refused(t, c.why, rawOf("a SEARCH "+strings.Replace(c.keys, "%", row(many), 1)), "a")
		}
		wantRefused(t, c.why, rawOf("a SEARCH "+strings.Replace(c.keys, "%", row(100000), 1)), "a")
	}
	// Each NOT is a key, and what it is about, too.
	pairs := "NOT SEEN" + times(" NOT SEEN", 98)
	var l []api.Key
	for range 99 {
		l = append(l, key("NOT", key("SEEN")))
	}
	wantCommand(t, "199 keys", rawOf("a SEARCH "+pairs), searching(l...))
	wantCommand(t, "200 keys", rawOf("a SEARCH "+pairs+" ALL"), searching(append(l, key("ALL"))...))
	refused(t, "201 keys", rawOf("a SEARCH "+pairs+" NOT ALL"), "a")
	refused(t, "201 keys", rawOf("a SEARCH "+pairs+" ALL ALL"), "a")
}

// At most MaxNest keys are within one another, the search's own AND being the first of them, and what has no kids the last one.
func TestNestedKeys(t *testing.T) {
	type around struct {
		why, ahead, behind string
		wrap               func(api.Key) api.Key
	}
	all := []around{
		{"NOT", "NOT ", "", func(k api.Key) api.Key { return key("NOT", k) }},
		{"( )", "(", ")", func(k api.Key) api.Key { return key("AND", k) }},
		{"( ) with more", "(SEEN ", " SEEN)", func(k api.Key) api.Key { return key("AND", key("SEEN"), k, key("SEEN")) }},
		{"the first of OR", "OR ", " SEEN", func(k api.Key) api.Key { return key("OR", k, key("SEEN")) }},
		{"the second of OR", "OR SEEN ", "", func(k api.Key) api.Key { return key("OR", key("SEEN"), k) }},
	}
	for _, a := range all {
		for _, b := range all {
			s, k := "ALL", key("ALL")
			for deep := 2; deep <= api.MaxNest+3; deep++ { // the search's AND and ALL are two
				if r := rawOf("a SEARCH " + s); deep <= api.MaxNest {
					wantCommand(t, a.why+" and "+b.why, r, searching(k))
					wantCommand(t, a.why+" and "+b.why+", twice", rawOf("a SEARCH "+s+" "+s), searching(k, k))
				} else {
					refused(t, a.why+" and "+b.why, r, "a")
					refused(t, a.why+" and "+b.why+", behind another one", rawOf("a SEARCH ALL "+s), "a")
				}
				one := a
				if deep%2 == 0 {
					one = b
				}
				s, k = one.ahead+s+one.behind, one.wrap(k)
			}
		}
		wantRefused(t, a.why, rawOf("a SEARCH "+times(a.ahead, 100000)+"ALL"+times(a.behind, 100000)), "a")
	}
}

// What is short is all held against the slow reader.
func TestShortSearchesAsSlow(t *testing.T) {
	t.Parallel()
	commands := 0
	for _, signs := range [][]string{{"NOT", "OR", "ALL", "1", "(", ")", " "}, {"NOT ", "OR ", " ALL", "ALL", " TEXT", " x", "(", ")"}, {"UID ", "1", ":", ",", "*", "0", " "}} {
		eachText(signs, 5, func(s string) {
			if asSlow(t, rawOf("a SEARCH "+s)) {
				commands++
			}
		})
	}
	if commands < 400 {
		t.Fatalf("just %d of them are commands", commands)
	}
}

// keyByChance is one with at most so many keys within one another, and a text of it.
func keyByChance(r *rand.Rand, deep int) (api.Key, string) {
	pick := func(l []string) string { return l[r.Intn(len(l))] }
	kinds := 10
	if deep == 1 {
		kinds = 7
	}
	switch r.Intn(kinds) {
	case 0:
		word := pick(bareKeys)
		return key(word), word
	case 1:
		word, atom := pick(atomKeys), pick([]string{"x", "$Junk", "1", "}<"})
		return api.Key{Op: word, Text: atom}, word + " " + atom
	case 2:
		word, text := pick(textKeys), pick([]string{"x", "]", "ALL", "NOT"})
		return api.Key{Op: word, Text: text}, word + " " + text
	case 3:
		n := r.Intn(1 << uint(r.Intn(33)))
		word := pick(numberKeys)
		return api.Key{Op: word, N: n}, word + " " + strconv.Itoa(n)
	case 4:
		n := r.Intn(1 << 32)
		return api.Key{Op: "SEQ", Set: set(0, 0, n+1, 1)}, "*," + strconv.Itoa(n+1) + ":1"
	case 5:
		return api.Key{Op: "UID", Set: set(2, 2, 1, 3)}, "UID 2,1:3"
	case 6:
		word := pick(dayKeys)
		n := date.Days(1, 1, 1) + r.Intn(date.Days(9999, 12, 31)-date.Days(1, 1, 1)+1)
		text := strings.TrimLeft(date.Print(date.At(86400*n, 0)), " ")
		text, _, _ = strings.Cut(text, " ")
		return api.Key{Op: word, N: n}, word + " " + text
	case 7:
		k, s := keyByChance(r, deep-1)
		return key("NOT", k), "NOT " + s
	case 8:
		k, s := keyByChance(r, deep-1)
		l, more := keyByChance(r, deep-1)
		return key("OR", k, l), "OR " + s + " " + more
	}
	var kids []api.Key
	var texts []string
	for range 1 + r.Intn(3) {
		k, s := keyByChance(r, deep-1)
		kids, texts = append(kids, k), append(texts, s)
	}
	return key("AND", kids...), "(" + strings.Join(texts, " ") + ")"
}

func TestKeysByChance(t *testing.T) {
	r := rand.New(rand.NewSource(16))
	fits := 0
	for range 3000 {
		var kids []api.Key
		var texts []string
		for range 1 + r.Intn(4) {
			k, s := keyByChance(r, 1+r.Intn(api.MaxNest))
			kids, texts = append(kids, k), append(texts, s)
		}
		raw := rawOf("a SEARCH " + strings.Join(texts, " "))
		if many, deep := slowCounts(key("AND", kids...)); many > api.MaxKeys || deep > api.MaxNest {
			refused(t, "keys by chance", raw, "a")
			continue
		}
		fits++
		wantCommand(t, "keys by chance", raw, searching(kids...))
	}
	if fits < 1000 {
		t.Fatalf("just %d of them have not too many keys", fits)
	}
}
