package wire_test

import (
	"math/rand"
	"slices"
	"testing"

	"haversack/api"
	"haversack/wire"
)

// P1, P2, and the rules that hold everywhere.

func TestNil(t *testing.T) {
	var f *wire.Feed
	for _, s := range []string{"", "a", "a\r\n", "a{3}\n", times("a", 5000)} {
		if got := f.Take([]byte(s)...); len(got) != 0 {
			t.Fatalf("of %s on nil comes %s", tell(s), tell(got))
		}
		wantIdle(t, "nil", f, true)
	}
	if got := f.Take(); len(got) != 0 {
		t.Fatalf("of no bytes on nil comes %s", tell(got))
	}
}

func TestNew(t *testing.T) {
	f := wire.New()
	if f == nil {
		t.Fatal("New is nil")
	}
	wantIdle(t, "a new one", f, true)
	wantEvents(t, "a new one", "", f.Take(), nil)
	if f == wire.New() {
		t.Fatal("two new ones are one")
	}
}

// A feed that New did not make is none with bytes, so it does what a new one does.
func TestAFeedThatIsAZeroValue(t *testing.T) {
	var f wire.Feed
	wantIdle(t, "a zero value", &f, true)
	s := "a{1}\nl\nb"
	wantEvents(t, "a zero value", s, f.Take([]byte(s)...), []api.Event{more(), whole("a", "l", "")})
	wantIdle(t, "a zero value that has begun", &f, false)
}

func TestTwoFeedsBesideEachOther(t *testing.T) {
	texts := []string{
		"", "a", "a\r\n", "a{3}\r\nxyz\r\n", "{2+}\n\r\n\n", times("a", 4001) + "\nb\n", times("a", 4000) + "\r\nb\n", times("a", 4000) + "\rb\nc\n", "{50001+}\nabc", "{50001}\n", times("{0+}\n", 21), "b{1}\nl{1}\nm\n", "\r\r\n{0}\n",
	}
	for _, s := range texts {
		for _, other := range texts {
			f, g := wire.New(), wire.New()
			var ofS, ofOther []api.Event
			for i := range max(len(s), len(other)) {
				if i < len(s) {
					ofS = append(ofS, f.Take(s[i])...)
				}
				if i < len(other) {
					ofOther = append(ofOther, g.Take(other[i])...)
				}
			}
			for _, c := range []struct {
				s   string
				f   *wire.Feed
				got []api.Event
			}{{s, f, ofS}, {other, g, ofOther}} {
				wanted, idle := slow(c.s)
				wantEvents(t, "beside another one", c.s, c.got, wanted)
				wantIdleBehind(t, "beside another one", c.s, c.f, idle)
			}
		}
	}
}

func TestWhatIsHandedInIsNeitherChangedNorKept(t *testing.T) {
	s := "a{1+}\r\nlb{4}\r\nmmmmc\r\nd{50001+}\r\nee"
	for cut := range len(s) + 1 {
		f := wire.New()
		b := []byte(s[:cut])
		got := f.Take(b...)
		if string(b) != s[:cut] {
			t.Fatalf("%s became %s", tell(s[:cut]), tell(b))
		}
		for i := range b {
			b[i] = 'q'
		}
		got = append(got, f.Take([]byte(s[cut:])...)...)
		wantEvents(t, "cut at "+itoa(cut), s, got, []api.Event{more(), whole("a", "l", "b", "mmmm", "c"), long("d")})
	}
	r := rawOf("a", "l", "b", "m", "c")
	r.Texts, r.Literals = slices.Grow(r.Texts, 10), slices.Grow(r.Literals, 10)
	if wire.Bytes(r) != "a{1+}\r\nlb{1+}\r\nmc\r\n" || !sameRaw(r, rawOf("a", "l", "b", "m", "c")) {
		t.Fatalf("Bytes made a command %s", tell(r))
	}
	if slices.ContainsFunc(r.Texts[:10], func(s string) bool { return len(s) > 1 }) || r.Texts[:10][3] != "" || r.Literals[:10][2] != "" {
		t.Fatal("Bytes wrote behind a list")
	}
}

// spoil writes all over what was handed out, as far as its lists go.
func spoil(events []api.Event) {
	for i := range events {
		r := &events[i].Raw
		for _, l := range [][]string{r.Texts[:cap(r.Texts)], r.Literals[:cap(r.Literals)]} {
			for j := range l {
				l[j] = "spoilt"
			}
		}
		r.Texts, r.Literals = append(r.Texts, "spoilt"), append(r.Literals, "spoilt")
		events[i].Kind = 99
	}
}

func TestWhatIsHandedOutIsTheCallersOwn(t *testing.T) {
	s := "a{1+}\nl\nb{1}\nm{1+}\nn\nc{1+}\no{50001}\nd{1+}\np" + times("e", 4000) + "\nf\n"
	_, wanted := fed(s)
	_, got := fed(s)
	for i := range got {
		spoil(got[i : i+1])
		wantEvents(t, "behind one that was spoilt", s, got[i+1:], wanted[i+1:])
	}
	r := rand.New(rand.NewSource(9))
	for range 3000 {
		s := chance(r, 14, smallPieces...)
		wanted, _ := slow(s)
		f := wire.New()
		for i := range len(s) {
			got := f.Take(s[i])
			if len(got) > len(wanted) {
				t.Fatalf("of %s more comes than %s", tell(s), tell(wanted))
			}
			wantEvents(t, "one by one, all spoilt", s, got, wanted[:len(got)])
			wanted = wanted[len(got):]
			spoil(got)
		}
		if len(wanted) > 0 {
			t.Fatalf("of %s %s do not come", tell(s), tell(wanted))
		}
	}
}

// However much was let go or told already, the next command is as if it were the first one.
func TestBehindMuch(t *testing.T) {
	f := wire.New()
	for range 5 {
		for range 5 {
			f.Take([]byte("a{50000+}\n" + times("l", 50000) + "b\n")...)
		}
		f.Take([]byte(times("a", 5000))...)
		f.Take([]byte(times("a", 100000))...)
		f.Take([]byte("\n{900000+}\n")...)
		for range 9 {
			f.Take([]byte(times("y", 100000))...)
		}
		wantEvents(t, "behind much", "\nc\n", f.Take([]byte("\nc\n")...), []api.Event{whole("c")})
	}
}
