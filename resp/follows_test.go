package resp_test

import (
	"math/rand"
	"slices"
	"testing"

	"haversack/api"
	"haversack/resp"
)

// P15.3 and P15.4 are held of all that wantTold is asked for; here are many more lines and texts.

// telling are the signs that mean something somewhere.
var telling = []string{"a", "1", "0", " ", "(", ")", "[", "]", "<", ">", `"`, `\`, "{1}" + end, "\x00", "NIL", "*", "+", "OK ", end}

func TestShortTexts(t *testing.T) {
	for _, ahead := range []string{"", "* ", "* OK ", "* (", "* B["} {
		t.Run(ahead, func(t *testing.T) {
			t.Parallel()
			are := 0
			eachText(telling, 4, func(s string) {
				if asSlow(t, ahead+s) {
					are++
				}
				if asSlow(t, ahead+s+end) {
					are++
				}
			})
			if are < 200 {
				t.Fatalf("just %d are lines", are)
			}
		})
	}
}

func TestShortStrings(t *testing.T) {
	eachText([]string{"a", `"`, `\`, "\x00", " "}, 6, func(s string) {
		asSlow(t, `* "`+s+`"`+end)
		wantTold(t, "a string", lines(values(text(s))), "* "+slowValue(text(s))+end)
	})
}

func TestNearWhole(t *testing.T) {
	for _, s := range whole {
		t.Run(s, func(t *testing.T) {
			t.Parallel()
			eachNear(s+end, func(near string) { asSlow(t, near) })
			eachNear(s, func(near string) { asSlow(t, near+end) })
		})
	}
}

func TestLinesByChance(t *testing.T) {
	r := rand.New(rand.NewSource(15))
	right := 0
	for range 30000 {
		if asSlowRight(t, "by chance", lineByChance(r)) {
			right++
		}
	}
	if right < 15000 || right > 29500 {
		t.Fatalf("%d are right", right)
	}
}

func TestSeveralByChance(t *testing.T) {
	r := rand.New(rand.NewSource(3))
	for range 3000 {
		var all []api.Line
		wrong := false
		for range r.Intn(6) {
			l := lineByChance(r)
			wrong = wrong || !slowRight(l)
			all = append(all, l)
		}
		if wrong {
			if got := resp.Print(all...); got != "" {
				t.Fatalf("Print of %s is %s", tell(all), tell(got))
			}
			continue
		}
		wantTold(t, "several by chance", all, slowPrint(all...))
	}
}

// Unlike lines are told unlike: what is told of each of many stands for just one line.
func TestUnlike(t *testing.T) {
	some := vals(nothing, number(0), number(1), number(10), atom("a"), atom("OK"), atom("NIL1"), text(""), text("a"), text("1"), text("NIL"), text("()"), text("\n"), text("OK"), text(`"`), text(`\`), text("{1}"), text("a b"),
		list(), section("a", nil), section("OK", nil), section("a", []int{0}), section("a", []int{1}))
	for _, v := range slices.Clone(some) {
		some = append(some, list(v), section("a", nil, v), section("a", []int{1}, v), list(v, v), list(list(v)))
	}
	told := map[string]api.Line{}
	lay := func(l api.Line) {
		if !resp.Right(l) {
			return
		}
		s := resp.Print(l)
		if other, is := told[s]; is && !same(other, l) {
			t.Fatalf("%s and %s are told alike: %s", tell(l), tell(other), tell(s))
		}
		told[s] = l
	}
	for _, tag := range []string{"*", "+", "a", "OK"} {
		for _, word := range []string{"", "OK", "NO"} {
			for _, said := range []string{"", "a", "[a] a", "a [a]", "OK a", "(a)", "a OK", " ", "1"} {
				lay(api.Line{Tag: tag, Status: word, Text: said})
				for _, v := range some {
					lay(api.Line{Tag: tag, Status: word, Text: said, Code: vals(v)})
					lay(api.Line{Tag: tag, Status: word, Text: said, Code: vals(v, atom("a"))})
				}
			}
		}
		for _, v := range some {
			lay(api.Line{Tag: tag, Vals: vals(v)})
			for _, w := range some {
				lay(api.Line{Tag: tag, Vals: vals(v, w)})
			}
		}
	}
	if len(told) < 40000 {
		t.Fatalf("just %d lines were told", len(told))
	}
	for s, l := range told {
		wantParse(t, "back", s, lines(l))
	}
}

func TestPiecesByChance(t *testing.T) {
	r := rand.New(rand.NewSource(4))
	pieces := []string{"* ", "a ", "+ ", "OK ", "NO", " ", "(", ")", " (", ") ", "B[", "]", "] ", "[", "<1>", `"a"`, `"`, `\"`, "{2}" + end, "\x00\x01", "{0}" + end, "1", "01", "NIL", "nil", "x", end, end, "\n"}
	are := 0
	for range 200000 {
		s := one(r, "* ", "a ", "+ ", "* OK ", "a NO [") + chance(r, 8, pieces...)
		if !rarely(r, 4) {
			s += end
		}
		if asSlow(t, s) {
			are++
		}
	}
	if are < 10000 {
		t.Fatalf("just %d are lines", are)
	}
}
