package wire_test

import (
	"math/rand"
	"slices"
	"strings"
	"testing"

	"haversack/api"
	"haversack/wire"
)

// P13.2

func TestBytes(t *testing.T) {
	great := times("g", 1234567)
	for _, c := range []struct {
		why    string
		r      api.Raw
		wanted string
	}{
		{"the example", rawOf("a ", "xyz", " b"), "a {3+}\r\nxyz b\r\n"},
		{"a text", rawOf("a b"), "a b\r\n"},
		{"an empty text", rawOf(""), "\r\n"},
		{"empty texts, and an empty literal", rawOf("", "", ""), "{0+}\r\n\r\n"},
		{"several", rawOf("a", "l", "b", "mm", "c"), "a{1+}\r\nlb{2+}\r\nmmc\r\n"},
		{"several empty ones", rawOf("", "", "", "", ""), "{0+}\r\n{0+}\r\n\r\n"},
		{"a literal with ends and marks", rawOf("a", "\r\n{1}\n", "b"), "a{6+}\r\n\r\n{1}\nb\r\n"},
		{"texts with ends and marks", rawOf("a\r", "l", "b\n{3}"), "a\r{1+}\r\nlb\n{3}\r\n"},
		{"a text that is a mark", rawOf("{1+}"), "{1+}\r\n"},
		{"all kinds of bytes", rawOf("\x00\xff", "\xfe", "é"), "\x00\xff{1+}\r\n\xfeé\r\n"},
		{"ten bytes", rawOf("", "0123456789", ""), "{10+}\r\n0123456789\r\n"},
		{"as many bytes as may be", rawOf("a", times("l", api.MaxLiteral), "b"), "a{50000+}\r\n" + times("l", api.MaxLiteral) + "b\r\n"},
		{"more bytes than a mark can tell", rawOf("a", great, "b"), "a{1234567+}\r\n" + great + "b\r\n"},
		{"more bytes than a command has", rawOf(great), great + "\r\n"},
		{"nothing", api.Raw{}, ""},
		{"empty lists", api.Raw{Texts: []string{}, Literals: []string{}}, ""},
		{"a literal without a text", api.Raw{Literals: []string{"l"}}, ""},
		{"as many texts as literals", api.Raw{Texts: []string{"a"}, Literals: []string{"l"}}, ""},
		{"as many texts as literals, two", api.Raw{Texts: []string{"a", "b"}, Literals: []string{"l", "m"}}, ""},
		{"two texts more", api.Raw{Texts: []string{"a", "b"}}, ""},
		{"two texts more, beside a literal", api.Raw{Texts: []string{"a", "b", "c"}, Literals: []string{"l"}}, ""},
		{"one text fewer", api.Raw{Texts: []string{"a"}, Literals: []string{"l", "m"}}, ""},
		{"empty texts, two more", api.Raw{Texts: []string{"", ""}, Literals: []string{}}, ""},
	} {
		if got := wire.Bytes(c.r); got != c.wanted {
			t.Fatalf("%s: Bytes = %s; want %s", c.why, tell(got), tell(c.wanted))
		}
	}
}

func TestBytesOfEachSmallCount(t *testing.T) {
	for texts := range 25 {
		for literals := range 25 {
			r := api.Raw{Texts: slices.Repeat([]string{"t"}, texts), Literals: slices.Repeat([]string{"l"}, literals)}
			wanted := ""
			if texts == literals+1 {
				wanted = times("t{1+}\r\nl", literals) + "t\r\n"
			}
			if got := wire.Bytes(r); got != wanted {
				t.Fatalf("of %d texts and %d literals: %s", texts, literals, tell(got))
			}
		}
	}
}

// P13.4

// wantBack: of the Bytes of a command comes just that command.
func wantBack(t *testing.T, r api.Raw) {
	t.Helper()
	s := wire.Bytes(r)
	f, got := fed(s)
	wantEvents(t, "Bytes, all at once", s, got, []api.Event{{Kind: api.EventCommand, Raw: r}})
	wantIdleBehind(t, "Bytes, all at once", s, f, true)
	g := wire.New()
	wantEvents(t, "Bytes, one by one", s, oneByOne(g, s), []api.Event{{Kind: api.EventCommand, Raw: r}})
	wantIdleBehind(t, "Bytes, one by one", s, g, true)
}

func TestBack(t *testing.T) {
	great := times("g", api.MaxLiteral)
	for _, all := range [][]string{
		{""}, {"a"}, {"a b c"}, {"", "", ""}, {"a ", "xyz", " b"}, {"a", "\r\n", "b"}, {"a", "{1}\r\n", "b"}, {"", "\n", "", "\r", ""},
		{"\ra\rb"}, {"{1}a", "l", "{2+} "}, {"{", "l", "}"}, {"{1", "l", "1}"}, {"{}", "l", "{+}"}, {"{1234567}"}, {"+", "l", "3"}, {"\x00\xff", "\x00", "\xfe"},
		{"a", great, "b"}, {"a", great, "b", great, "c"}, {"a", times("\r\n", 25000), "b"},
	} {
		wantBack(t, rawOf(all...))
	}
}

// A command is as long as may be: its texts and marks count, the ends of its lines do not.
func TestBackAtTheBounds(t *testing.T) {
	for less := range 3 {
		wantBack(t, rawOf(times("a", api.MaxLine-less)))
		wantBack(t, rawOf(times("a", api.MaxLine-4-less), "l", ""))
		wantBack(t, rawOf("", "l", times("a", api.MaxLine-4-less)))
		wantBack(t, rawOf("a", "x", times("a", api.MaxLine-5-less)))
		wantBack(t, rawOf(times("a", 2000), "", times("b", 1988-less), "0123456789", "ccc"))
	}
	all := []string{}
	for i := range api.MaxLiterals {
		all = append(all, itoa(i), times("l", i*2000))
	}
	wantBack(t, rawOf(append(all, "end")...))
	for _, all := range [][]string{
		{times("a", api.MaxLine+1)},
		{times("a", api.MaxLine-3), "l", ""},
		{"", "l", times("a", api.MaxLine-3)},
		{times("a", 2000), "", times("b", 1989), "0123456789", "ccc"},
		append(all, "", "", "end"),
		{"a", times("l", api.MaxLiteral+1), "b"},
	} {
		s := wire.Bytes(rawOf(all...))
		f, got := fed(s)
		if len(got) == 0 || got[0].Kind != api.EventLong {
			t.Fatalf("of %s, that is too long, comes %s", tell(s), tell(got))
		}
		asSlow(t, s)
		wantIdleBehind(t, "of one that is too long", s, f, true)
	}
}

// mayBe makes a text one without a byte 10, or a 13 or mark at its end.
func mayBe(s string) string {
	s = strings.ReplaceAll(s, "\n", "")
	for strings.HasSuffix(s, "\r") || slowMark(s) != nil {
		s = s[:len(s)-1]
	}
	return s
}

func TestBackByChance(t *testing.T) {
	r := rand.New(rand.NewSource(4))
	back := 0
	for range 20000 {
		size := 0
		var all []string
		for range r.Intn(api.MaxLiterals + 1) {
			text := mayBe(chance(r, 4, smallPieces...))
			literal := chance(r, 6, smallPieces...)
			size += len(text) + len("{+}") + len(itoa(len(literal)))
			all = append(all, text, literal)
		}
		last := mayBe(chance(r, 6, smallPieces...))
		if r.Intn(3) == 0 {
			last = times("a", api.MaxLine-size-r.Intn(3))
		}
		if size+len(last) <= api.MaxLine {
			wantBack(t, rawOf(append(all, last)...))
			back++
		}
	}
	if back < 10000 {
		t.Fatalf("just %d are not too long", back)
	}
}

// What a feed tells of a command has the same Bytes as before, but for marks and ends, so that it comes again.
func TestCommandsComeAgain(t *testing.T) {
	r := rand.New(rand.NewSource(14))
	again := 0
	for range 20000 {
		_, events := fed(chance(r, 12, smallPieces...))
		for _, e := range events {
			if e.Kind != api.EventCommand || slices.ContainsFunc(e.Raw.Texts, func(s string) bool { return mayBe(s) != s }) {
				continue
			}
			wantBack(t, e.Raw)
			again++
		}
	}
	if again < 10000 {
		t.Fatalf("just %d come again", again)
	}
}
