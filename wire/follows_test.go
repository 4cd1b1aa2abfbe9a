package wire_test

import (
	"math/rand"
	"slices"
	"testing"

	"haversack/api"
	"haversack/wire"
)

// P13.4 stands in bytes_test.go.

// P13.3

func TestCutAtEachPlace(t *testing.T) {
	a := times("a", api.MaxLine)
	for _, s := range []string{
		"", "\n", "a\r\n", "a {3}\r\nxyz b\r\n", "a {3+}\r\nx\r\n b\r\r\nc{0}\n{0+}\r\n\n", "a{1}{2}\nxy{1234567}\n", "a{50001}\r\nb\r\nc{1}\nd",
		times("{0+}\n", 20) + "{2+}\r\n\r\nb\r\nc\r\n", times("{1}\r\nl", 21) + "\n",
	} {
		_, wanted := fed(s)
		for i := range len(s) + 1 {
			for j := i; j <= len(s); j++ {
				wantEvents(t, "cut at "+itoa(i)+" and "+itoa(j), s, inPieces(wire.New(), s, i, j), wanted)
			}
		}
		wantEvents(t, "one by one", s, oneByOne(wire.New(), s), wanted)
	}
	for _, s := range []string{
		a + "\r\nb\r\n", a + "\r\r\nb\r\n", a + "\rb\r\nc\n", a[3:] + "{3}\r\nxyz\r\nb\r\n", "c{1+}\r\nl" + a[5:] + "\r\nb\n", "c{1+}\r\nl" + a[5:] + "\r\r\nb\n", a[1:] + "\r\nb\r\n", a + "a\nb\n", a[4:] + "{3}\r\nxyz\n", a[3:] + "{3}\nxyz \nb\n", "c{1+}\nl" + a + "\nb\n",
	} {
		_, wanted := fed(s)
		for i := range len(s) + 1 {
			wantEvents(t, "cut at "+itoa(i), s, inPieces(wire.New(), s, i), wanted)
		}
	}
}

func TestPiecesByChance(t *testing.T) {
	r := rand.New(rand.NewSource(3))
	kinds := make([]int, 4)
	do := func(s string) {
		wanted, idle := slow(s)
		f, got := fed(s)
		wantEvents(t, "all at once", s, got, wanted)
		wantIdleBehind(t, "all at once", s, f, idle)
		g := wire.New()
		wantEvents(t, "in pieces", s, inPieces(g, s, placesByChance(r, s, 12)...), wanted)
		wantIdleBehind(t, "in pieces", s, g, idle)
		for _, e := range got {
			kinds[e.Kind]++
		}
	}
	for range 30000 {
		do(chance(r, 14, smallPieces...))
	}
	for range 400 {
		do(chance(r, 20, greatPieces...))
	}
	for kind, many := range kinds[1:] {
		if many < 1000 {
			t.Fatalf("the kind %d came %d times alone", kind+1, many)
		}
	}
}

func TestBytesOneByOneByChance(t *testing.T) {
	r := rand.New(rand.NewSource(31))
	for range 3000 {
		s := chance(r, 14, smallPieces...)
		f := wire.New()
		var got []api.Event
		for i := range len(s) {
			got = append(got, f.Take(s[i])...)
			wanted, idle := slow(s[:i+1])
			wantEvents(t, "so far", s[:i+1], got, wanted)
			wantIdleBehind(t, "so far", s[:i+1], f, idle)
		}
	}
}

// P13.5

var crosses = []byte(times("x", api.MaxLiteral))

// wantOut: behind MaxLiteral bytes of x, a line's end and a line, this line is a command.
func wantOut(t *testing.T, came, end, line, lineEnd string) {
	t.Helper()
	f := wire.New()
	f.Take([]byte(came)...)
	f.Take(crosses...)
	f.Take([]byte(end)...)
	wantIdleBehind(t, "behind x and a line's end", came, f, true)
	wantEvents(t, "behind "+tell(came)+", x and a line's end", line, f.Take([]byte(line+lineEnd)...), []api.Event{whole(line)})
	wantIdleBehind(t, "behind a line", came, f, true)
}

func TestBehindWhateverCame(t *testing.T) {
	full := times("{0+}\n", api.MaxLiterals)
	a := times("a", api.MaxLine)
	for _, came := range []string{
		"", "a", "a\r", "a\n", "a\r\n", "x", "{", "{3", "{3+", "{3}", "{3+}", "{3}\r", "{3+}\r",
		"{0}\n", "{0+}\n", "{1}\n", "{3+}\r\n", "{3+}\r\nab", "{3+}\r\nabc", "{46000}\n", "{46001+}\n", "{46010+}\nab", "{49999}\n", "{50000}\n", "{50000+}\r\n",
		"{50000+}\n" + times("l", 49999), "{50000}\n" + times("l", 49999) + "x", "a{1+}\nlb{50000}\n", "a{50000}\n" + times("\n", 50000) + "b{50000+}\r\n",
		a, a[1:], a + "a", a + "\r", a[3:] + "{3}\r\n", a[3:] + "{3}\r", a[4:] + "{1+}\n", a[9:] + "{50000+}\n", a + "{50000+}\n",
		full, full + "{", full + "{0}\n", full + "{0+}\n", full + "{50000+}\n", full + "{50000+}\n" + times("x", 20), full + "{1}\n", full + "{999999+}\r\n",
		"{50001}\n", "{999999}\n", "{50001+}\n", "{50001+}\r\n", "{50002+}\n", "{50003+}\n", "{50010+}\n", "{60000+}\n", "{100004+}\n", "{999999+}\n", "{999999+}\r\n",
		"{50001+}\n" + times("l", 50000), "{50001+}\n" + times("l", 50001), "{60000+}\n\r\n\r\n", "{60000+}\nx", "{60000+}\nx\r", "{60000+}\nxx\n", "{999999+}\n" + times("x\n", 30000), "{999999+}\n" + times("x", 50000) + "\r",
	} {
		for _, end := range ends {
			for _, line := range []string{"", "n", "a b", "x", "{", "{1}x", "\rn", times("n", api.MaxLine)} {
				wantOut(t, came, end, line, "\n")
			}
			wantOut(t, came, end, "n", "\r\n")
			wantOut(t, came, end, "\r", "\r\n")
			wantOut(t, came, end, a, "\r\n")
		}
	}
}

func TestBehindWhateverCameByChance(t *testing.T) {
	eachText(signs, 3, func(s string) { wantOut(t, s, "\n", "n", "\n") })
	r := rand.New(rand.NewSource(5))
	for i := range 1000 {
		pieces := smallPieces
		if i%2 == 0 {
			pieces = greatPieces
		}
		wantOut(t, chance(r, 8, pieces...), ends[r.Intn(2)], mayBe(chance(r, 3, smallPieces...)), "\r\n")
	}
}

// P13.1 and P13.5: a literal that is let go ends early behind these bytes, and behind nothing that is nearly so.
func TestTheWayOutOfALiteralThatIsLetGo(t *testing.T) {
	x := string(crosses)
	for _, c := range []struct {
		why, s string
		is     bool
	}{
		{"a 10", x + "\n", true},
		{"13 10", x + "\r\n", true},
		{"one more", "x" + x + "\n", true},
		{"one more, 13 10", "x" + x + "\r\n", true},
		{"behind lines", "a\r\nb\n" + x + "\n", true},
		{"behind a row that is too short", x[1:] + "y" + x + "\r\n", true},
		{"behind a row that is long enough", x + "y" + x + "\r\n", true},
		{"behind a row and a 13", x + "\r" + x + "\r\n", true},
		{"one fewer", x[1:] + "\n", false},
		{"one fewer, 13 10", x[1:] + "\r\n", false},
		{"two 13", x + "\r\r\n", false},
		{"13 x 10", x + "\rx\n", false},
		{"13 x 13 10", x + "\rx\r\n", false},
		{"13 y 10", x + "\ry\n", false},
		{"another byte at the end", x + "y\n", false},
		{"another byte ahead of 13 10", x + "y\r\n", false},
		{"another byte within", x[:20000] + "y" + x[20000:] + "\n", false},
		{"a 13 within", x[:20000] + "\r" + x[20000:] + "\n", false},
		{"a 10 within", x[:20000] + "\n" + x[20000:] + "\n", false},
		{"great letters", times("X", api.MaxLiteral) + "\n", false},
		{"other letters", times("y", api.MaxLiteral) + "\r\n", false},
		{"no line's end", x + x, false},
		{"no line's end, but a 13", x + "\r", false},
	} {
		s := "a{200000+}\r\n" + c.s
		want(t, c.why, s, c.is, long("a"))
		left := "y" + times("\n", 200000-len(c.s)-1)
		if c.is {
			want(t, c.why+", and a line", s+"n\n", true, long("a"), whole("n"))
			want(t, c.why+", and then such a literal again", s+"b{60000+}\n\n", false, long("a"), long("b"))
		} else {
			want(t, c.why+", and all of the literal", s+left, false, long("a"))
			want(t, c.why+", and all of the literal, and a line", s+left+"b\nn\n", true, long("a"), whole("n"))
		}
	}
	want(t, "bytes ahead of the literal do not count", "x{50001+}\n"+x[1:]+"\n\nb\nn\n", true, long("x"), whole("n"))
	want(t, "nor do those of another one", "{60000+}\n"+times("y", 30000)+x[:30000]+"\n{60000+}\n"+x[:20001]+"\n", false, long(""), long(""))
	want(t, "behind the literal any line's end will do", "{50001+}\n"+times("y", 50001)+"x\nn\n", true, long(""), whole("n"))
	if slices.Contains(crosses, 'y') {
		t.Fatal("what is handed in was changed")
	}
}
