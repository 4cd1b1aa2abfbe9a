package wire_test

import (
	"testing"

	"haversack/api"
	"haversack/wire"
)

// P13.1, of commands that are too long.

// wantAt: of bytes up to a last one nothing comes that is told as too long, and with that byte it comes.
func wantAt(t *testing.T, why, s string, wanted api.Event) {
	t.Helper()
	f, ahead := fed(s[:len(s)-1])
	for _, e := range ahead {
		if e.Kind == api.EventLong {
			t.Fatalf("%s: it comes too early, of %s", why, tell(s))
		}
	}
	wantEvents(t, why, s, f.Take(s[len(s)-1]), []api.Event{wanted})
	asSlow(t, s)
}

func TestLinesAtMaxLine(t *testing.T) {
	a := func(n int) string { return times("a", n) }
	const most = api.MaxLine
	for _, end := range ends {
		want(t, "one less", a(most-1)+end, true, whole(a(most-1)))
		want(t, "just so many", a(most)+end, true, whole(a(most)))
		want(t, "one more", a(most+1)+end, true, long(a(most)))
		want(t, "two more", a(most+2)+end, true, long(a(most)))
		want(t, "many more", a(5*most)+end, true, long(a(most)))
		want(t, "one more, and the next one", a(most+1)+end+"b"+end, true, long(a(most)), whole("b"))
		want(t, "two of them", a(most+1)+end+a(most+1)+end, true, long(a(most)), long(a(most)))
		want(t, "two of just so many", a(most)+end+a(most)+end, true, whole(a(most)), whole(a(most)))
	}
	want(t, "just so many, not ended", a(most), false)
	wantAt(t, "one more", a(most+1), long(a(most)))
	wantAt(t, "of all kinds of bytes", "\x00\xff"+a(most-2)+"\xff", long("\x00\xff"+a(most-2)))
}

func TestMarksAtMaxLine(t *testing.T) {
	a := func(n int) string { return times("a", n) }
	const most = api.MaxLine
	want(t, "a mark is the last bytes", a(most-3)+"{3}\n", false, more())
	want(t, "a mark with + is the last bytes", a(most-4)+"{3+}\nxyz\n", true, whole(a(most-4), "xyz", ""))
	want(t, "a mark is the last bytes, and a line without bytes", a(most-3)+"{3}\nxyz\nb\n", true, more(), whole(a(most-3), "xyz", ""), whole("b"))
	wantAt(t, "a byte behind that", a(most-3)+"{3}\nxyzb", long(a(most-3), "xyz", "b"))
	want(t, "the end of a mark is one more", a(most-2)+"{3}\r\nxyz\n", true, long(a(most-2)+"{3"), whole("xyz"))
	want(t, "the end of a mark with + is one more", a(most-3)+"{3+}\r\nxyz\n", true, long(a(most-3)+"{3+"), whole("xyz"))
	want(t, "the beginning of a mark is one more", a(most)+"{3}\r\nxyz\n", true, long(a(most)), whole("xyz"))
	want(t, "a mark is far beyond", a(2*most)+"{50001+}\r\nxyz\n", true, long(a(most)), whole("xyz"))
	wantAt(t, "the end of a mark is one more", a(most-2)+"{3}", long(a(most-2)+"{3"))
	digits := times("0", 6)
	want(t, "a mark's digits count as they are written", a(most-8)+"{"+digits+"}\n\n", true, more(), whole(a(most-8), "", ""))
	want(t, "a mark's digits count as they are written", a(most-7)+"{"+digits+"}\n\n", true, long(a(most-7)+"{"+digits), whole(""))
}

// Texts of several lines count together, with their marks, and without their ends and the literals.
func TestSeveralLinesAtMaxLine(t *testing.T) {
	const most = api.MaxLine
	b := func(n int) string { return times("b", n) }
	for _, end := range ends {
		for _, c := range []struct {
			ahead string
			size  int
			all   []string
			told  []api.Event
		}{
			{"a{1+}" + end + "l", 5, []string{"a", "l"}, nil},
			{"a{1}" + end + "l", 4, []string{"a", "l"}, []api.Event{more()}},
			{"{0}" + end, 3, []string{"", ""}, []api.Event{more()}},
			{"{0+}" + end + "{0}" + end, 7, []string{"", "", "", ""}, []api.Event{more()}},
			{"a{50000+}" + end + times("l", 50000), 9, []string{"a", times("l", 50000)}, nil},
			{times("a", 3000) + "{5+}" + end + "\r\n\r\n\r", 3004, []string{times("a", 3000), "\r\n\r\n\r"}, nil},
		} {
			left := most - c.size
			last := func(s string) []string { return append(c.all[:len(c.all):len(c.all)], s) }
			then := func(e ...api.Event) []api.Event { return append(c.told[:len(c.told):len(c.told)], e...) }
			want(t, "one less, in several", c.ahead+b(left-1)+end, true, then(whole(last(b(left-1))...))...)
			want(t, "as many, in several", c.ahead+b(left)+end, true, then(whole(last(b(left))...))...)
			want(t, "one more, in several", c.ahead+b(left+1)+end+"c"+end, true, then(long(last(b(left+1))...), whole("c"))...)
			want(t, "many more, in several", c.ahead+b(left+5000)+end+"c"+end, true, then(long(last(b(left+1))...), whole("c"))...)
			want(t, "one more, not ended", c.ahead+b(left+1), false, then(long(last(b(left+1))...))...)
			want(t, "a mark that is over it, in several", c.ahead+b(left-2)+"{3}"+end+"xyz"+end, true, then(long(last(b(left-2)+"{3}")...), whole("xyz"))...)
			wantAt(t, "one more, in several", c.ahead+b(left+1), long(last(b(left+1))...))
		}
	}
	want(t, "a command is not the next one's", times("a", 3000)+"\n"+times("b", 3000)+"\n", true, whole(times("a", 3000)), whole(times("b", 3000)))
	want(t, "nor is one with a literal", times("a", 3000)+"{0+}\n\n"+times("b", 3000)+"\n", true, whole(times("a", 3000), "", ""), whole(times("b", 3000)))
	want(t, "nor is one that is too long", times("a", 4001)+"\n"+times("b", 4000)+"\n", true, long(times("a", 4000)), whole(times("b", 4000)))
}

// What comes behind a line that is too long is let go up to its end, and no more is told of it.
func TestBehindALineThatIsTooLong(t *testing.T) {
	ahead, told := times("a", api.MaxLine+1), long(times("a", api.MaxLine))
	for _, rest := range []string{"", "b", "\r", "\r\r", times("b", 9000), "{3}", "{3+}", "{50001+}", "a {0}", "\x00", "}"} {
		want(t, "not ended", ahead+rest, false, told)
		for _, end := range ends {
			want(t, "ended", ahead+rest+end, true, told)
			want(t, "and the next one begins", ahead+rest+end+"n", false, told)
			want(t, "and the next one", ahead+rest+end+"n"+end, true, told, whole("n"))
			want(t, "and an empty one", ahead+rest+end+end, true, told, whole(""))
			want(t, "and the next one with a literal", ahead+rest+end+"n{1}"+end+"l"+end, true, told, more(), whole("n", "l", ""))
			want(t, "and the next one is too long", ahead+rest+end+ahead+rest+end, true, told, told)
		}
	}
}

func TestMarksThatAskForTooMuch(t *testing.T) {
	for _, size := range []string{"50001", "050001", "50002", "60000", "100000", "999999"} {
		for _, end := range ends {
			want(t, "without +", "a {"+size+"}"+end, true, long("a "))
			want(t, "without +, and the next one begins", "a {"+size+"}"+end+"b", false, long("a "))
			want(t, "without +, and the next one", "a {"+size+"}"+end+"b"+end, true, long("a "), whole("b"))
			want(t, "without +, and an empty line", "a {"+size+"}"+end+end, true, long("a "), whole(""))
			want(t, "without a text", "{"+size+"}"+end, true, long(""))
			want(t, "behind a literal", "a{1+}"+end+"l b{"+size+"}"+end+"c"+end, true, long("a", "l", " b"), whole("c"))
			want(t, "behind one that was waited for", "a{1}"+end+"l b{"+size+"}"+end+"c"+end, true, more(), long("a", "l", " b"), whole("c"))
			want(t, "behind another mark", "a{1}{"+size+"}"+end, true, long("a{1}"))
			want(t, "with +", "a {"+size+"+}"+end, false, long("a "))
			want(t, "with +, behind a literal", "a{1+}"+end+"l b{"+size+"+}"+end, false, long("a", "l", " b"))
			want(t, "the line has not ended", "a {"+size+"}", false)
			wantAt(t, "when the line ends", "a {"+size+"}"+end, long("a "))
			wantAt(t, "when the line ends, with +", "a {"+size+"+}"+end, long("a "))
		}
	}
	want(t, "as much as may be", "a {50000}\n", false, more())
}

// Of a mark with + the literal is let go, whatever it has, then a line.
func TestALiteralThatIsLetGo(t *testing.T) {
	for _, size := range []int{50001, 50002, 60000, 999999} {
		pieces := []string{"b{1}\r\n", "x", "l", "\n", "\r\n", "{0+}\n", "\r"}
		if size > 100000 {
			pieces = pieces[:2]
		}
		for _, piece := range pieces {
			literal := times(piece, size)[:size]
			for _, end := range ends {
				s := "a{" + itoa(size) + "+}" + end
				for _, c := range []struct {
					behind string
					idle   bool
					events []api.Event
				}{
					{literal[:1], false, nil},
					{literal[:size-1], false, nil},
					{literal, false, nil},
					{literal + "b", false, nil},
					{literal + "\r", false, nil},
					{literal + end, true, nil},
					{literal + "b" + end, true, nil},
					{literal + times("b", 9000) + end, true, nil},
					{literal + end + end, true, []api.Event{whole("")}},
					{literal + "b" + end + "n" + end, true, []api.Event{whole("n")}},
					{literal + " {3}" + end + "xyz" + end, true, []api.Event{whole("xyz")}},
					{literal + " {60000+}" + end + "xyz{1}" + end, false, []api.Event{more()}},
					{literal + "b" + end + "n", false, nil},
				} {
					f, got := fed(s + c.behind)
					wantEvents(t, "let go", s+c.behind, got, append([]api.Event{long("a")}, c.events...))
					wantIdleBehind(t, "let go", s+c.behind, f, c.idle)
				}
				asSlow(t, s+literal+"b"+end+"n"+end)
			}
		}
	}
}

func TestMoreLiteralsThanMayBe(t *testing.T) {
	var all []string
	for range api.MaxLiterals {
		all = append(all, "t", "l")
	}
	told := long(append(all, "u")...)
	for _, end := range ends {
		ahead := times("t{1+}"+end+"l", api.MaxLiterals)
		want(t, "as many as may be, and a beginning", ahead+"u{1}", false)
		wantAt(t, "when the line ends", ahead+"u{1}"+end, told)
		want(t, "without +", ahead+"u{1}"+end, true, told)
		want(t, "without +, and the next one", ahead+"u{1}"+end+"l"+end, true, told, whole("l"))
		want(t, "without +, of no bytes", ahead+"u{0}"+end+"n"+end, true, told, whole("n"))
		want(t, "with +", ahead+"u{1+}"+end, false, told)
		want(t, "with +, and a literal", ahead+"u{1+}"+end+"l", false, told)
		want(t, "with +, a literal and an end", ahead+"u{1+}"+end+"l"+end, true, told)
		want(t, "with +, a literal and a line", ahead+"u{1+}"+end+"l b"+end+"n"+end, true, told, whole("n"))
		want(t, "with +, a literal with ends in it", ahead+"u{4+}"+end+"\r\n\r\n b"+end+"n"+end, true, told, whole("n"))
		want(t, "with +, of no bytes", ahead+"u{0+}"+end, false, told)
		want(t, "with +, of no bytes, and an end", ahead+"u{0+}"+end+end, true, told)
		want(t, "with +, of no bytes, and a line", ahead+"u{0+}"+end+"b"+end+"n"+end, true, told, whole("n"))
		want(t, "with +, of as many bytes as may be", ahead+"u{50000+}"+end+times("\n", 50000)+"b"+end+"n"+end, true, told, whole("n"))
		want(t, "then as many of the next one", ahead+"u{1}"+end+ahead+end, true, told, whole(append(all, "")...))
		want(t, "of the next one one more", ahead+"u{1}"+end+ahead+"u{1}"+end, true, told, told)
		want(t, "of two commands", ahead+end+ahead+end, true, whole(append(all, "")...), whole(append(all, "")...))
	}
}

func TestEachWayToBeTooLongBesideEachOther(t *testing.T) {
	var all []string
	for range api.MaxLiterals {
		all = append(all, "", "")
	}
	full := times("{0+}\n", api.MaxLiterals) // of 80 bytes
	const most = api.MaxLine - 4*api.MaxLiterals
	a := func(n int) string { return times("a", n) }
	last := func(s string) api.Event { return long(append(all[:len(all):len(all)], s)...) }
	want(t, "a mark that asks for too much, and is one more", full+"b{50001}\nn\n", true, last("b"), whole("n"))
	want(t, "a mark with + that asks for too much, and is one more", full+"b{50001+}\n"+times("\n", 50001)+"c\nn\n", true, last("b"), whole("n"))
	want(t, "a line that is too long, and a mark that asks for too much", a(api.MaxLine-6)+"{50001}\nn\n", true, long(a(api.MaxLine-6)+"{50001"), whole("n"))
	want(t, "a line that is too long, and one with + that asks for too much", a(api.MaxLine-7)+"{50001+}\nn\n", true, long(a(api.MaxLine-7)+"{50001+"), whole("n"))
	want(t, "a line as long as may be, and a mark that asks for too much", a(api.MaxLine-7)+"{50001}\nn\n", true, long(a(api.MaxLine-7)), whole("n"))
	want(t, "a line as long as may be, that ends with 13 10, and a mark that asks for too much", a(api.MaxLine-7)+"{50001}\r\nn\n", true, long(a(api.MaxLine-7)), whole("n"))
	want(t, "lines that are too long, and a mark that is one more", full+a(most-2)+"{0}\nn\n", true, last(a(most-2)+"{0}"), whole("n"))
	want(t, "lines as long as may be, and a mark that is one more", full+a(most-3)+"{0}\nn\n", true, last(a(most-3)), whole("n"))
	want(t, "lines that are too long, and as many literals as may be", full+a(most+1)+"\nn\n", true, last(a(most+1)), whole("n"))
	want(t, "lines as long as may be, and as many literals as may be", full+a(most)+"\nn\n", true, whole(append(all, a(most))...), whole("n"))
	want(t, "all three", full+a(most-6)+"{50001}\nn\n", true, last(a(most-6)+"{50001}"), whole("n"))
	want(t, "all three, with +", full+a(most-7)+"{50001+}\nn\n", true, last(a(most-7)+"{50001+}"), whole("n"))
}

func TestIdleBehindOneThatIsTooLong(t *testing.T) {
	f := wire.New()
	f.Take([]byte(times("a", api.MaxLine))...)
	for _, b := range []byte("ab{3}\r") {
		f.Take(b)
		wantIdle(t, "a line that has not ended", f, false)
	}
	f.Take('\n')
	wantIdle(t, "a line that has ended", f, true)
	f.Take([]byte("a{50001}\r\n")...)
	wantIdle(t, "a mark without +", f, true)
	f.Take([]byte("a{50001+}\r\n")...)
	for range 50001 {
		wantIdle(t, "a literal", f, false)
		f.Take('\n')
	}
	wantIdle(t, "behind a literal", f, false)
	f.Take('\r')
	wantIdle(t, "a line behind it", f, false)
	f.Take('\n')
	wantIdle(t, "behind that line", f, true)
}

// Each short text behind what brings a feed near its bounds.
func TestEachShortTextAtTheBounds(t *testing.T) {
	full := times("{0+}\n", api.MaxLiterals)
	for _, ahead := range []string{
		times("a", api.MaxLine-3),
		times("a", api.MaxLine-1),
		times("a", api.MaxLine) + "\r",
		times("a", api.MaxLine-3) + "{3",
		"a{1+}\nl" + times("a", api.MaxLine-6),
		times("a", api.MaxLine-6) + "{1+}\nl",
		times("a", api.MaxLine-5) + "{",
		full[:len(full)-2],
		full + times("a", api.MaxLine-4*api.MaxLiterals-4),
		full + "{50001",
		full + "{2+}\n",
		full + "{1+",
		"a{50001",
		"a{5000",
	} {
		eachText(signs, 4, func(s string) { asSlow(t, ahead+s) })
	}
	for _, ahead := range []string{"a{50001+}\n" + times("l", 49999), "{50000}\n" + times("l", 49999), full + "{50000+}\n" + times("\n", 49999)} {
		eachText([]string{"{0}", "\r", "\n", "x"}, 4, func(s string) { asSlow(t, ahead+s) })
	}
}
