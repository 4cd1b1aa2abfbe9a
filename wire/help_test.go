package wire_test

import (
	"fmt"
	"math/rand"
	"regexp"
	"slices"
	"strconv"
	"strings"
	"testing"

	"haversack/api"
	"haversack/wire"
)

// The signs that mean something in lines, and one that does not.
var signs = []string{"{", "1", "+", "}", "\r", "\n", "x"}

// ends are those that a line may have.
var ends = []string{"\n", "\r\n"}

func times(s string, n int) string { return strings.Repeat(s, n) }

// rawOf is a command of texts and literals, by turns.
func rawOf(all ...string) api.Raw {
	var r api.Raw
	for i, s := range all {
		if i%2 == 0 {
			r.Texts = append(r.Texts, s)
		} else {
			r.Literals = append(r.Literals, s)
		}
	}
	return r
}

func whole(all ...string) api.Event { return api.Event{Kind: api.EventCommand, Raw: rawOf(all...)} }

func long(all ...string) api.Event { return api.Event{Kind: api.EventLong, Raw: rawOf(all...)} }

func more() api.Event { return api.Event{Kind: api.EventMore} }

func sameRaw(a, b api.Raw) bool {
	return slices.Equal(a.Texts, b.Texts) && slices.Equal(a.Literals, b.Literals)
}

func sameEvents(a, b []api.Event) bool {
	return slices.EqualFunc(a, b, func(a, b api.Event) bool { return a.Kind == b.Kind && sameRaw(a.Raw, b.Raw) })
}

// tell makes texts short enough to be told.
func tell(v any) string {
	s := fmt.Sprintf("%q", v)
	if len(s) > 300 {
		return s[:150] + " .. " + s[len(s)-150:]
	}
	return s
}

// fed is a feed to which bytes came all at once, and what came of them.
func fed(s string) (*wire.Feed, []api.Event) {
	f := wire.New()
	return f, f.Take([]byte(s)...)
}

// inPieces is what comes of bytes that are cut at some places, which rise.
func inPieces(f *wire.Feed, s string, places ...int) []api.Event {
	var all []api.Event
	from := 0
	for _, to := range append(places, len(s)) {
		all = append(all, f.Take([]byte(s[from:to])...)...)
		from = to
	}
	return all
}

// oneByOne is what comes of bytes of which each comes alone, with calls without bytes between.
func oneByOne(f *wire.Feed, s string) []api.Event {
	var all []api.Event
	for i := range len(s) {
		all = append(all, f.Take()...)
		all = append(all, f.Take(s[i])...)
	}
	return all
}

var slowForm = regexp.MustCompile(`(?s)\A(.*)\{([0-9]{1,6})(\+?)\}\z`)

// slowMark is a line's text, its mark's digits and its +, if it has a mark, which is at most nine bytes.
func slowMark(line string) []string {
	from := max(0, len(line)-9)
	m := slowForm.FindStringSubmatch(line[from:])
	if m == nil {
		return nil
	}
	return []string{line[:from] + m[1], m[2], m[3]}
}

// slow goes through all bytes at one time, command by command, and tells whether it is idle behind them.
func slow(s string) ([]api.Event, bool) {
	var all []api.Event
	for s != "" {
		events, rest, ended := slowCommand(s)
		all = append(all, events...)
		if !ended {
			return all, false
		}
		s = rest
	}
	return all, true
}

// slowCommand is what comes of a text's first command, what is behind it, and whether it has ended.
func slowCommand(s string) (events []api.Event, rest string, ended bool) {
	var r api.Raw
	size := 0
	for {
		line, behind, ended := strings.Cut(s, "\n")
		if first, is := slowFirst(line, api.MaxLine-size); is {
			return append(events, slowEvent(api.EventLong, r, first)), behind, ended
		}
		if !ended {
			return events, "", false
		}
		line = strings.TrimSuffix(line, "\r")
		m := slowMark(line)
		if m == nil {
			return append(events, slowEvent(api.EventCommand, r, line)), behind, true
		}
		n, _ := strconv.Atoi(m[1])
		if n > api.MaxLiteral || len(r.Literals)+1 > api.MaxLiterals {
			events = append(events, slowEvent(api.EventLong, r, m[0]))
			if m[2] == "+" {
				behind, ended = slowLetGo(behind, n)
			}
			return events, behind, ended
		}
		if m[2] == "" {
			events = append(events, api.Event{Kind: api.EventMore})
		}
		if len(behind) < n {
			return events, "", false
		}
		size += len(line)
		r.Texts = append(r.Texts, m[0])
		r.Literals = append(r.Literals, behind[:n])
		s = behind[n:]
		if s == "" {
			return events, "", false
		}
	}
}

// slowFirst is what is told of a line that has more bytes than there is room for: its shortest beginning that is too long, whether or not a 13 at its end is the line's.
func slowFirst(line string, room int) (string, bool) {
	for to := room; to <= len(line); to++ {
		if len(strings.TrimSuffix(line[:to], "\r")) > room {
			return line[:min(to, api.MaxLine)], true
		}
	}
	return "", false
}

func slowEvent(kind int, r api.Raw, last string) api.Event {
	return api.Event{Kind: kind, Raw: api.Raw{Texts: append(slices.Clone(r.Texts), last), Literals: slices.Clone(r.Literals)}}
}

// slowLetGo is what is behind a literal of so many bytes and a line that are let go, and whether they have ended.
func slowLetGo(s string, n int) (string, bool) {
	first := -1
	for _, end := range ends {
		out := times("x", api.MaxLiteral) + end
		if at := strings.Index(s, out); at >= 0 && at+len(out) <= n && (first < 0 || at+len(out) < first) {
			first = at + len(out)
		}
	}
	if first >= 0 {
		return s[first:], true
	}
	if len(s) < n {
		return "", false
	}
	_, rest, ended := strings.Cut(s[n:], "\n")
	return rest, ended
}

// want holds what comes of bytes against what is wanted, all at once and one by one, and against the slow one.
func want(t *testing.T, why, s string, idle bool, wanted ...api.Event) {
	t.Helper()
	f, got := fed(s)
	wantEvents(t, why+", all at once", s, got, wanted)
	wantIdleBehind(t, why+", all at once", s, f, idle)
	g := wire.New()
	wantEvents(t, why+", one by one", s, oneByOne(g, s), wanted)
	wantIdleBehind(t, why+", one by one", s, g, idle)
	got, is := slow(s)
	wantEvents(t, why+", the slow one", s, got, wanted)
	if is != idle {
		t.Fatalf("%s, the slow one: idle behind %s is %v", why, tell(s), is)
	}
}

func wantEvents(t *testing.T, why, s string, got, wanted []api.Event) {
	t.Helper()
	if !sameEvents(got, wanted) {
		t.Fatalf("%s: of %s comes %s; want %s", why, tell(s), tell(got), tell(wanted))
	}
}

func wantIdle(t *testing.T, why string, f *wire.Feed, idle bool) {
	t.Helper()
	if f.Idle() != idle {
		t.Fatalf("%s: Idle is %v", why, !idle)
	}
}

func wantIdleBehind(t *testing.T, why, s string, f *wire.Feed, idle bool) {
	t.Helper()
	if f.Idle() != idle {
		t.Fatalf("%s: Idle behind %s is %v", why, tell(s), !idle)
	}
}

// asSlow holds what comes of bytes against the slow one.
func asSlow(t *testing.T, s string) {
	t.Helper()
	wanted, idle := slow(s)
	f, got := fed(s)
	wantEvents(t, "as the slow one", s, got, wanted)
	wantIdleBehind(t, "as the slow one", s, f, idle)
}

// eachText goes through all texts of some signs, up to so many of them.
func eachText(signs []string, most int, do func(s string)) {
	var longer func(s string, more int)
	longer = func(s string, more int) {
		do(s)
		if more > 0 {
			for _, sign := range signs {
				longer(s+sign, more-1)
			}
		}
	}
	longer("", most)
}

// chance is a text of some pieces, up to so many.
func chance(r *rand.Rand, most int, pieces ...string) string {
	var s strings.Builder
	for range r.Intn(most + 1) {
		s.WriteString(pieces[r.Intn(len(pieces))])
	}
	return s.String()
}

// placesByChance are up to so many at which a text is cut, some of them alike.
func placesByChance(r *rand.Rand, s string, most int) []int {
	places := make([]int, r.Intn(most+1))
	for i := range places {
		places[i] = r.Intn(len(s) + 1)
	}
	slices.Sort(places)
	return places
}

// smallPieces are such that a few of them make commands, and things that are nearly so.
var smallPieces = []string{
	"a", "x", " ", "b c", "\r", "\n", "\r\n", "\r\n", "\n", "{", "}", "+", "{}", "{+}", "{0}", "{0+}", "{1}", "{2+}", "{3}\r\n", "{3+}\n", "{5+}\r\n", "{007}\n",
	"{0}\r\n", "{0+}\n", "{1234567}", "{50001}\n", "{50001}\r\n", "{1}{2}\n", "\x00", "\xff", "xyz",
}

// greatPieces bring commands to their bounds.
var greatPieces = append([]string{
	times("y", 3990), times("x", 3999), times("z", 4000), times("z", 4000) + "\r\n", times("z", 4000) + "\r", times("y", 3997) + "{3}\r\n", times("x", 4001), times("x", 2000), times("x", 700), times("\n", 30), times("{0+}\r\n", 19), times("{0+}\n", 21), times("{1}\nx", 20),
	"{50000}\n", "{50000+}\r\n", "{50001+}\r\n", "{50001+}\n", "{50002+}\n", "{60000+}\r\n", "{999999+}\n", "{999999}\r\n",
	times("x", 49999), times("x", 50000), times("x\r\n", 20000), times("l\n", 25000), times("x", 50000) + "\r", times("x", 50000) + "\n",
}, smallPieces...)

func itoa(n int) string { return strconv.Itoa(n) }
