package mime_test

import (
	"math/rand"
	"regexp"
	"slices"
	"strconv"
	"strings"
	"testing"

	"haversack/api"
	"haversack/header"
	"haversack/mime"
)

// eachText goes through all texts of some signs, up to so many of them.
func eachText(signs []string, most int, do func(s string)) {
	var longer func(s string, more int)
	longer = func(s string, more int) {
		do(s)
		if more > 0 {
			for _, sign := range signs {
				longer(s+sign, more-1)
			}
		}
	}
	longer("", most)
}

// eachNear goes through a text with each byte at each place as another one, as one more, or left out.
func eachNear(s string, do func(near string)) {
	for at := range len(s) {
		do(s[:at] + s[at+1:])
		for b := range 256 {
			do(s[:at] + string([]byte{byte(b)}) + s[at+1:])
			do(s[:at] + string([]byte{byte(b)}) + s[at:])
		}
	}
	for b := range 256 {
		do(s + string([]byte{byte(b)}))
	}
}

// chance is a text of some pieces, up to so many.
func chance(r *rand.Rand, most int, pieces ...string) string {
	var s strings.Builder
	for range r.Intn(most + 1) {
		s.WriteString(pieces[r.Intn(len(pieces))])
	}
	return s.String()
}

// one is one of some pieces.
func one(r *rand.Rand, pieces ...string) string { return pieces[r.Intn(len(pieces))] }

const slowToken = "([!#$%&'*+\\-.0-9A-Z^_`a-z{|}~]+)"

var (
	slowNames   = regexp.MustCompile(`\A[\t ]*` + slowToken + `[\t ]*/[\t ]*` + slowToken)
	slowParam   = regexp.MustCompile(`(?s)\A[\t ]*;[\t ]*` + slowToken + `[\t ]*=[\t ]*(?:` + slowToken + `|("(?:[^"\\]|\\.)*"))`)
	slowEscaped = regexp.MustCompile(`(?s)\\(.)`)
	slowBehind  = regexp.MustCompile(`\A(--)?[\t ]*(?:\r?\n)?\z`)
	slowEnd     = regexp.MustCompile(`\r?\n\z`)
	slowGreat   = regexp.MustCompile(`[A-Z]+`)
)

// slowKind reads a kind's text by regular expressions. Tokens are ASCII, so the library's small letters are the same.
func slowKind(s string) (string, string, []api.Param) {
	names := slowNames.FindStringSubmatch(s)
	if names == nil {
		return "text", "plain", nil
	}
	var l []api.Param
	s = s[len(names[0]):]
	for p := slowParam.FindStringSubmatch(s); p != nil; p = slowParam.FindStringSubmatch(s) {
		value := p[2]
		if p[3] != "" {
			value = slowEscaped.ReplaceAllString(p[3][1:len(p[3])-1], "$1")
		}
		l = append(l, api.Param{Name: strings.ToLower(p[1]), Value: value})
		s = s[len(p[0]):]
	}
	return strings.ToLower(names[1]), strings.ToLower(names[2]), l
}

// slowTexts parts a content by going over its lines as texts; each of its own texts is told with its place in the content.
func slowTexts(content, boundary string) ([]string, []int) {
	var texts []string
	var places []int
	text, begin, place := "", -1, 0
	for _, line := range strings.SplitAfter(content, "\n") {
		var behind []string
		if strings.HasPrefix(line, "--"+boundary) {
			behind = slowBehind.FindStringSubmatch(line[2+len(boundary):])
		}
		place += len(line)
		if behind == nil {
			text += line
			continue
		}
		if begin >= 0 {
			texts, places = append(texts, slowEnd.ReplaceAllString(text, "")), append(places, begin)
		}
		if behind[1] != "" {
			return texts, places
		}
		text, begin = "", place
	}
	if begin >= 0 {
		texts, places = append(texts, text), append(places, begin)
	}
	return texts, places
}

func slowFirst(l []api.Field, name string) []string {
	for _, f := range l {
		if strings.EqualFold(f.Name, name) {
			return []string{header.Unfold(f.Value)}
		}
	}
	return nil
}

// slowPart is a text as a part, with all its parts down to MaxNest, however many there are.
func slowPart(text string, place, deep int, bare string) api.Part {
	head, content := header.Cut(text)
	l := header.Fields(head)
	p := api.Part{Head: place, From: place + len(head), To: place + len(text), Lines: len(strings.Split(content, "\n")) - 1}
	p.Type, p.Sub, p.Params = slowKind(append(slowFirst(l, "content-type"), bare)[0])
	p.ID, p.Desc = slowFirst(l, "Content-ID"), slowFirst(l, "Content-Description")
	p.Enc = slowGreat.ReplaceAllStringFunc(append(slowFirst(l, "Content-Transfer-Encoding"), "7bit")[0], strings.ToLower)
	if deep == api.MaxNest {
		return p
	}
	if p.Type+"/"+p.Sub == "message/rfc822" {
		p.Kids = []api.Part{slowPart(content, p.From, deep+1, "text/plain")}
	}
	at := slices.IndexFunc(p.Params, func(p api.Param) bool { return p.Name == "boundary" && p.Value != "" })
	if p.Type != "multipart" || at < 0 {
		return p
	}
	bare = "text/plain"
	if p.Sub == "digest" {
		bare = "message/rfc822"
	}
	texts, places := slowTexts(content, p.Params[at].Value)
	for i := range texts {
		p.Kids = append(p.Kids, slowPart(texts[i], p.From+places[i], deep+1, bare))
	}
	return p
}

// pruned is a part of which so many parts are left, and how many are left of these behind it.
func pruned(p api.Part, left int) (api.Part, int) {
	left--
	var kids []api.Part
	for _, kid := range p.Kids {
		if left == 0 {
			break
		}
		kid, left = pruned(kid, left)
		kids = append(kids, kid)
	}
	p.Kids = kids
	return p, left
}

func slowStructure(s string) api.Part {
	p, _ := pruned(slowPart(s, 0, 1, "text/plain"), api.MaxParts)
	return p
}

// same tells whether parts are; lists without members may be nil or empty.
func same(a, b api.Part) bool {
	return a.Type == b.Type && a.Sub == b.Sub && a.Enc == b.Enc &&
		a.Head == b.Head && a.From == b.From && a.To == b.To && a.Lines == b.Lines &&
		slices.Equal(a.Params, b.Params) && slices.Equal(a.ID, b.ID) && slices.Equal(a.Desc, b.Desc) &&
		slices.EqualFunc(a.Kids, b.Kids, same)
}

// pathed is a part, and the path at which it stands.
type pathed struct {
	path []int
	part api.Part
}

// slowPaths are all paths at which parts stand, from a part on of which the next number is asked.
func slowPaths(asked api.Part, path ...int) []pathed {
	var l []pathed
	named := []api.Part{asked}
	if asked.Type == "multipart" && len(asked.Kids) > 0 {
		named = asked.Kids
	}
	for i, p := range named {
		here := append(slices.Clone(path), i+1)
		l = append(l, pathed{here, p})
		switch {
		case len(p.Kids) == 0:
		case p.Type == "multipart":
			l = append(l, slowPaths(p, here...)...)
		default:
			l = append(l, slowPaths(p.Kids[0], here...)...)
		}
	}
	return l
}

// each goes through a part and all that are within it.
func each(p api.Part, do func(p api.Part)) {
	do(p)
	for _, kid := range p.Kids {
		each(kid, do)
	}
}

// nest is how many parts are within one another, a part itself among them.
func nest(p api.Part) int {
	deep := 0
	for _, kid := range p.Kids {
		deep = max(deep, nest(kid))
	}
	return deep + 1
}

func pathText(path []int) string {
	var l []string
	for _, n := range path {
		l = append(l, strconv.Itoa(n))
	}
	return strings.Join(l, ".")
}

// outline is a part's kinds, those within it in ( ).
func outline(p api.Part) string {
	s := p.Type + "/" + p.Sub
	if len(p.Kids) == 0 {
		return s
	}
	var l []string
	for _, kid := range p.Kids {
		l = append(l, outline(kid))
	}
	return s + "(" + strings.Join(l, " ") + ")"
}

// kidTexts are a part's kids as they stand in a message.
func kidTexts(s string, p api.Part) []string {
	var l []string
	for _, kid := range p.Kids {
		l = append(l, s[kid.Head:kid.To])
	}
	return l
}

func wantKind(t *testing.T, s, kind, sub string, params ...api.Param) {
	t.Helper()
	a, b, l := mime.Kind(s)
	if a != kind || b != sub || !slices.Equal(l, params) {
		t.Fatalf("Kind(%q) = %q, %q, %q; want %q, %q, %q", s, a, b, l, kind, sub, params)
	}
}

func wantStructure(t *testing.T, s string, wanted api.Part) {
	t.Helper()
	if got := mime.Structure(s); !same(got, wanted) {
		t.Fatalf("Structure(%q) =\n%+v; want\n%+v", s, got, wanted)
	}
}

func wantOutline(t *testing.T, s, wanted string) {
	t.Helper()
	if got := outline(mime.Structure(s)); got != wanted {
		t.Fatalf("Structure(%q) is %s; want %s", s, got, wanted)
	}
}

func wantKids(t *testing.T, s string, wanted ...string) {
	t.Helper()
	if got := kidTexts(s, mime.Structure(s)); !slices.Equal(got, wanted) {
		t.Fatalf("the parts of %q are %q; want %q", s, got, wanted)
	}
}

func wantSection(t *testing.T, s string, path []int, what, wanted string) {
	t.Helper()
	if got, is := mime.Section(s, path, what); !is || got != wanted {
		t.Fatalf("Section(%q, %v, %q) = %q, %v; want %q", s, path, what, got, is, wanted)
	}
}

func wantNoSection(t *testing.T, s string, path []int, what string) {
	t.Helper()
	if got, is := mime.Section(s, path, what); is || got != "" {
		t.Fatalf("Section(%q, %v, %q) = %q, %v; want none", s, path, what, got, is)
	}
}

func wantFields(t *testing.T, s string, path []int, not bool, names []string, wanted string) {
	t.Helper()
	if got, is := mime.Fields(s, path, not, names...); !is || got != wanted {
		t.Fatalf("Fields(%q, %v, %v, %q) = %q, %v; want %q", s, path, not, names, got, is, wanted)
	}
}

func wantNoFields(t *testing.T, s string, path []int, not bool, names ...string) {
	t.Helper()
	if got, is := mime.Fields(s, path, not, names...); is || got != "" {
		t.Fatalf("Fields(%q, %v, %v, %q) = %q, %v; want none", s, path, not, names, got, is)
	}
}

// asSlow holds a message as a part against the slow readers, and against what follows: P11.4.
func asSlow(t *testing.T, s string) api.Part {
	t.Helper()
	p := mime.Structure(s)
	if wanted := slowStructure(s); !same(p, wanted) {
		t.Fatalf("Structure(%q) =\n%+v; want\n%+v", s, p, wanted)
	}
	wantPlaces(t, s, p)
	return p
}

// allAsSlow holds the message's sections, too, against what follows: P11.6.
func allAsSlow(t *testing.T, s string) api.Part {
	t.Helper()
	p := asSlow(t, s)
	wantSections(t, s, p)
	return p
}

// wantPlaces: P11.4.
func wantPlaces(t *testing.T, s string, whole api.Part) {
	t.Helper()
	if whole.Head != 0 || whole.To != len(s) {
		t.Fatalf("%q as a part is %+v", s, whole)
	}
	if head, content := header.Cut(s); s[:whole.From] != head || s[whole.From:] != content {
		t.Fatalf("%q as a part is %+v", s, whole)
	}
	n := 0
	each(whole, func(p api.Part) {
		n++
		place := p.From
		for _, kid := range p.Kids {
			if kid.Head < place || kid.From < kid.Head || kid.To < kid.From || kid.To > p.To {
				t.Fatalf("in %q is %+v a kid of %+v", s, kid, p)
			}
			place = kid.To
		}
	})
	if got := mime.Count(whole); got != n || got > api.MaxParts {
		t.Fatalf("Count(%+v) = %d; want %d", whole, got, n)
	}
}

// wantSections: P11.6.
func wantSections(t *testing.T, s string, whole api.Part) {
	t.Helper()
	wantSection(t, s, nil, "", s)
	wantSection(t, s, nil, "TEXT", s[whole.From:])
	wantSection(t, s, nil, "HEADER", s[:whole.From])
	wantNoSection(t, s, nil, "MIME")
	l := slowPaths(whole)
	known := map[string]int{}
	for _, at := range l {
		known[pathText(at.path)]++
		p := at.part
		wantSection(t, s, at.path, "", s[p.From:p.To])
		wantSection(t, s, at.path, "MIME", s[p.Head:p.From])
		wantNoSection(t, s, at.path, "mime")
		if p.Type+"/"+p.Sub != "message/rfc822" || len(p.Kids) == 0 {
			wantNoSection(t, s, at.path, "TEXT")
			wantNoSection(t, s, at.path, "HEADER")
			wantNoFields(t, s, at.path, true)
			continue
		}
		kid := p.Kids[0]
		wantSection(t, s, at.path, "TEXT", s[kid.From:kid.To])
		wantSection(t, s, at.path, "HEADER", s[kid.Head:kid.From])
		wantFields(t, s, at.path, true, nil, header.Only(s[kid.Head:kid.From], true))
	}
	for _, at := range append(l, pathed{}) {
		for _, n := range []int{-1, 0, 1, 2, len(at.part.Kids) + 1} {
			if path := append(slices.Clone(at.path), n); known[pathText(path)] == 0 {
				wantNoSection(t, s, path, "")
				wantNoSection(t, s, append(path, 1), "MIME")
			}
		}
	}
}
