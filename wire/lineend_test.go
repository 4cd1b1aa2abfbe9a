package wire_test

import (
	"testing"

	"haversack/api"
	"haversack/wire"
)

// P13.1 and P13.4: a 13 right ahead of a 10 belongs to the line's end, and does not count for MaxLine; a 13 that has come last is not told yet.

// ahead is what has come of a command when the line at whose end the 13 stands begins.
type ahead struct {
	why, s string
	size   int         // how many bytes of it count
	all    []string    // its texts and literals, by turns
	told   []api.Event // what came of it
}

func aheads() []ahead {
	l := []ahead{
		{why: "in one line"},
		{why: "behind another command", s: "b\r\n", told: []api.Event{whole("b")}},
		{why: "behind one as long as may be", s: times("b", api.MaxLine) + "\r\n", told: []api.Event{whole(times("b", api.MaxLine))}},
		{why: "behind one that is too long", s: times("b", api.MaxLine+1) + "\r\n", told: []api.Event{long(times("b", api.MaxLine))}},
	}
	for _, end := range ends {
		l = append(l,
			ahead{"behind a literal", "b{1+}" + end + "l", 5, []string{"b", "l"}, nil},
			ahead{"behind one that was waited for", "b{1}" + end + "l", 4, []string{"b", "l"}, []api.Event{more()}},
			ahead{"behind one that is 13", "b{1+}" + end + "\r", 5, []string{"b", "\r"}, nil},
			ahead{"behind two, one of them empty", "{0+}" + end + "c{2+}" + end + "\r\n", 9, []string{"", "", "c", "\r\n"}, nil},
			ahead{"behind many bytes", times("b", 3000) + "{2+}" + end + "lm", 3004, []string{times("b", 3000), "lm"}, nil},
		)
	}
	return l
}

// with is the command so far and another text.
func (a ahead) with(more ...string) []string { return append(a.all[:len(a.all):len(a.all)], more...) }

// then is what came so far and something more.
func (a ahead) then(more ...api.Event) []api.Event {
	return append(a.told[:len(a.told):len(a.told)], more...)
}

// soFar is a line's bytes, as they are told when it is too long.
func soFar(line string) string { return line[:min(len(line), api.MaxLine)] }

func TestA13AtMaxLine(t *testing.T) {
	for _, a := range aheads() {
		full := times("a", api.MaxLine-a.size)
		want(t, a.why+", a 13", a.s+full+"\r", false, a.told...)
		want(t, a.why+", 13 10", a.s+full+"\r\n", true, a.then(whole(a.with(full)...))...)
		want(t, a.why+", 13 10, and the next one", a.s+full+"\r\nn\r\n", true, a.then(whole(a.with(full)...), whole("n"))...)
		want(t, a.why+", 13 10, and the next one as long", a.s+full+"\r\n"+times("n", api.MaxLine)+"\r\n", true, a.then(whole(a.with(full)...), whole(times("n", api.MaxLine)))...)
		for _, behind := range []string{"b", "\r", "a", "{", "}", "\x00", "\xff", " "} {
			told := a.then(long(a.with(soFar(full + "\r" + behind))...))
			want(t, a.why+", a 13 and another byte", a.s+full+"\r"+behind, false, told...)
			want(t, a.why+", a 13 and another byte, and more", a.s+full+"\r"+behind+"c", false, told...)
			for _, end := range ends {
				want(t, a.why+", a 13 and another byte, ended", a.s+full+"\r"+behind+end, true, told...)
				want(t, a.why+", a 13 and another byte, and the next one", a.s+full+"\r"+behind+"c{3}"+end+"n"+end, true, append(told, whole("n"))...)
			}
		}
	}
}

func TestTwo13AtMaxLine(t *testing.T) {
	for _, a := range aheads() {
		full := times("a", api.MaxLine-a.size)
		for n := range 3 {
			line := full[:len(full)-n]
			if n == 0 {
				want(t, a.why+", two 13, the first of which is one more", a.s+line+"\r\r\n", true, a.then(long(a.with(soFar(line+"\r\r"))...))...)
			} else {
				want(t, a.why+", two 13, the first of which counts", a.s+line+"\r\r\n", true, a.then(whole(a.with(line+"\r")...))...)
				want(t, a.why+", two 13, not ended", a.s+line+"\r\r", false, a.told...)
			}
		}
		thirteens := times("\r", len(full))
		want(t, a.why+", all of them 13", a.s+thirteens+"\n", true, a.then(whole(a.with(thirteens[1:])...))...)
		want(t, a.why+", all of them 13, and one at the end", a.s+thirteens+"\r\n", true, a.then(whole(a.with(thirteens)...))...)
		want(t, a.why+", all of them 13, and two at the end", a.s+thirteens+"\r\r\n", true, a.then(long(a.with(soFar(thirteens+"\r\r"))...))...)
		want(t, a.why+", one more byte, and 13 10", a.s+full+"a\r\n", true, a.then(long(a.with(soFar(full+"a"))...))...)
	}
}

func TestA13BehindAMarkAtMaxLine(t *testing.T) {
	for _, a := range aheads() {
		for _, mark := range []string{"{3}", "{3+}", "{003}", "{000003+}"} {
			told := a.told
			if mark[len(mark)-2] != '+' {
				told = a.then(more())
			}
			text := times("a", api.MaxLine-a.size-len(mark))
			line := text + mark
			want(t, a.why+", a mark and a 13", a.s+line+"\r", false, a.told...)
			want(t, a.why+", a mark and 13 10", a.s+line+"\r\n", false, told...)
			want(t, a.why+", a mark, 13 10 and a literal", a.s+line+"\r\nxyz", false, told...)
			want(t, a.why+", a mark, a literal and a 13", a.s+line+"\r\nxyz\r", false, told...)
			want(t, a.why+", a mark, a literal and 13 10", a.s+line+"\r\nxyz\r\n", true, append(told[:len(told):len(told)], whole(a.with(text, "xyz", "")...))...)
			want(t, a.why+", a mark, a literal of 13 and 13 10", a.s+line+"\r\n\r\r\r\r\n", true, append(told[:len(told):len(told)], whole(a.with(text, "\r\r\r", "")...))...)
			want(t, a.why+", a mark, a literal and two 13", a.s+line+"\r\nxyz\r\r\nn\n", true, append(told[:len(told):len(told)], long(a.with(text, "xyz", "\r\r")...), whole("n"))...)
			want(t, a.why+", a mark, a literal, a 13 and another byte", a.s+line+"\r\nxyz\rb\r\nn\n", true, append(told[:len(told):len(told)], long(a.with(text, "xyz", "\rb")...), whole("n"))...)
			want(t, a.why+", a mark, a literal and one more byte", a.s+line+"\r\nxyzb\r\nn\n", true, append(told[:len(told):len(told)], long(a.with(text, "xyz", "b")...), whole("n"))...)
			want(t, a.why+", a mark and two 13", a.s+line+"\r\r\nxyz\n", true, a.then(long(a.with(soFar(line+"\r\r"))...), whole("xyz"))...)
			want(t, a.why+", no mark, since a 13 is behind it", a.s+line[1:]+"\r\r\nxyz\n", true, a.then(whole(a.with(line[1:]+"\r")...), whole("xyz"))...)
			want(t, a.why+", a mark, a 13 and another byte", a.s+line+"\rb\r\nxyz\n", true, a.then(long(a.with(soFar(line+"\rb"))...), whole("xyz"))...)
			want(t, a.why+", a mark that is over it", a.s+"a"+line+"\r\nxyz\n", true, a.then(long(a.with(soFar("a"+line))...), whole("xyz"))...)
		}
		for _, mark := range []string{"{50001}", "{999999}"} {
			text := times("a", api.MaxLine-a.size-len(mark))
			want(t, a.why+", a mark that asks for too much, and a 13", a.s+text+mark+"\r", false, a.told...)
			want(t, a.why+", a mark that asks for too much, and 13 10", a.s+text+mark+"\r\nn\r\n", true, a.then(long(a.with(text)...), whole("n"))...)
		}
		text := times("a", api.MaxLine-a.size-len("{50001+}"))
		want(t, a.why+", a mark with + that asks for too much, and 13 10", a.s+text+"{50001+}\r\n"+times("\n", 50001)+"b\r\nn\r\n", true, a.then(long(a.with(text)...), whole("n"))...)
	}
}

// The bytes of one command after another come one by one: of each nothing comes, and it is not idle, until its line ends.
func TestA13AtMaxLineOneByOne(t *testing.T) {
	f := wire.New()
	a := times("a", api.MaxLine)
	for _, c := range []struct {
		why, s string
		wanted api.Event
		then   string
	}{
		{"13 10", a + "\r\n", whole(a), ""},
		{"a 10", a + "\n", whole(a), ""},
		{"a 13 and another byte", a + "\rb", long(a), "c\r\n"},
		{"two 13", a + "\r\r", long(a), "\n"},
		{"two 13 that are not too many", a[1:] + "\r\r\n", whole(a[1:] + "\r"), ""},
		{"13 10 again", a + "\r\n", whole(a), ""},
		{"in several lines", "a{1+}\r\nx" + a[5:] + "\r\n", whole("a", "x", a[5:]), ""},
		{"a mark with +", a[4:] + "{3+}\r\nxyz\r\n", whole(a[4:], "xyz", ""), ""},
	} {
		for i := range len(c.s) - 1 {
			wantEvents(t, c.why+", so far", c.s[:i+1], f.Take(c.s[i]), nil)
			wantIdleBehind(t, c.why+", so far", c.s[:i+1], f, false)
		}
		wantEvents(t, c.why, c.s, f.Take(c.s[len(c.s)-1]), []api.Event{c.wanted})
		wantIdleBehind(t, c.why, c.s, f, c.then == "")
		wantEvents(t, c.why+", then", c.then, f.Take([]byte(c.then)...), nil)
		wantIdleBehind(t, c.why+", then", c.s+c.then, f, true)
	}
}
