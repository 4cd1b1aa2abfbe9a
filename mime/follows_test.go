package mime_test

import (
	"math"
	"math/rand"
	"reflect"
	"slices"
	"strings"
	"testing"

	"haversack/api"
	"haversack/mime"
)

// P11.4 and P11.6 are held, too, of all messages that asSlow and allAsSlow are asked for.

// A 13 at a text's end and a 10 behind it are one line end, so texts that end with 13 are made with 13 10 alone.

// P11.5: what stands in a message that is made of parts' texts is as each of them is by itself, so many bytes further on.
func TestMadeOfParts(t *testing.T) {
	r := rand.New(rand.NewSource(5))
	kids := 0
	for range 5000 {
		const b = "a border that stands in none"
		end := one(r, "\n", "\r\n")
		s := "Subject: x" + end + "Content-Type: multipart/mixed; boundary=\"" + b + "\"" + end + end + chance(r, 1, "ahead"+end)
		var texts []string
		for range 1 + r.Intn(5) {
			text := partByChance(r, r.Intn(4))
			if end == "\n" {
				text = strings.TrimRight(text, "\r")
			}
			texts = append(texts, text)
		}
		for _, text := range texts {
			s += "--" + b + chance(r, 1, " ", "\t") + end + text + end
		}
		s += "--" + b + "--" + chance(r, 1, end, " ", end+"behind")
		p := mime.Structure(s)
		if n, deep := made(texts); n <= api.MaxParts && deep <= api.MaxNest {
			wantKids(t, s, texts...)
			for i, kid := range p.Kids {
				if alone := moved(mime.Structure(texts[i]), kid.Head); !same(kid, alone) {
					t.Fatalf("in %q the part %d is %+v; by itself %+v", s, i+1, kid, alone)
				}
			}
			kids += len(texts)
		}
		asSlow(t, s)
	}
	if kids < 10000 {
		t.Fatalf("there were just %d parts", kids)
	}
}

// made is how many parts a message has that is made of some texts, and how many within one another.
func made(texts []string) (int, int) {
	n, deep := 1, 1
	for _, text := range texts {
		p := mime.Structure(text)
		n += mime.Count(p)
		deep = max(deep, 1+nest(p))
	}
	return n, deep
}

// moved is a part with its places so many bytes further on.
func moved(p api.Part, bytes int) api.Part {
	p.Head, p.From, p.To = p.Head+bytes, p.From+bytes, p.To+bytes
	p.Kids = slices.Clone(p.Kids)
	for i, kid := range p.Kids {
		p.Kids[i] = moved(kid, bytes)
	}
	return p
}

// P11.5: any bytes are a part's text, if the border stands in none of them.
func TestMadeOfAnyTexts(t *testing.T) {
	for _, end := range []string{"\n", "\r\n"} {
		eachText([]string{"\n", "\r", "a", "-", "--", "b"}, 5, func(text string) {
			if strings.Contains(text, "--b") || end == "\n" && strings.HasSuffix(text, "\r") {
				return
			}
			s := "Content-Type: multipart/x; boundary=b" + end + end + "--b" + end + text + end + "--b" + end + text + "x" + end + "--b--" + end
			wantKids(t, s, text, text+"x")
		})
	}
	for n := range 256 {
		text := string([]byte{byte(n)})
		wantKids(t, "Content-Type: multipart/x; boundary=b\n\n--b\n"+text+"\r\n--b\n"+text+text+"\r\n--b--", text, text+text)
	}
}

// P11.4: of each two parts that are kids of one, none lies in the other.
func TestPlacesAreApart(t *testing.T) {
	r := rand.New(rand.NewSource(4))
	for range 3000 {
		s := partByChance(r, 5)
		each(mime.Structure(s), func(p api.Part) {
			for i := 1; i < len(p.Kids); i++ {
				if p.Kids[i].Head <= p.Kids[i-1].To {
					t.Fatalf("in %q are %+v and %+v kids of one", s, p.Kids[i-1], p.Kids[i])
				}
			}
		})
	}
}

// P11.6: what is a part's MIME and what is told of it without a word is its text, as it stands in what it lies in.
func TestSectionsAreText(t *testing.T) {
	r := rand.New(rand.NewSource(3))
	for range 700 {
		s := partByChance(r, 4)
		head, _ := mime.Section(s, nil, "HEADER")
		content, _ := mime.Section(s, nil, "TEXT")
		if head+content != s {
			t.Fatalf("%q is %q and %q", s, head, content)
		}
		for _, at := range slowPaths(mime.Structure(s)) {
			head, _ := mime.Section(s, at.path, "MIME")
			content, _ := mime.Section(s, at.path, "")
			if head+content != s[at.part.Head:at.part.To] || !strings.Contains(s, head+content) {
				t.Fatalf("in %q is at %v %q and %q", s, at.path, head, content)
			}
			inner, is := mime.Section(s, at.path, "HEADER")
			text, also := mime.Section(s, at.path, "TEXT")
			if is != also || is && inner+text != content {
				t.Fatalf("in %q is at %v %q and %q", s, at.path, inner, text)
			}
		}
	}
}

const example = "Content-ID: <i>\nContent-Description: d\nContent-Type: multipart/x; boundary=b; c=d\n\n--b\nContent-ID: <j>\nContent-Type: a/b; e=f; g=h\n\n1\n--b\nContent-Type: message/rfc822\n\nA: b\nC: d\n\nc\n--b--\n"

// What is handed in stays as it was.
func TestWhatIsHandedInStays(t *testing.T) {
	path, names := append(make([]int, 0, 8), 2, 1), append(make([]string, 0, 8), "A", "x")
	for _, what := range append(slices.Clone(knownWords), otherWords...) {
		for n := range 3 {
			mime.Section(example, path[:n], what)
		}
	}
	for n := range 3 {
		mime.Fields(example, path[:n], n == 1, names[:n]...)
	}
	if !slices.Equal(path[:8], []int{2, 1, 0, 0, 0, 0, 0, 0}) || !slices.Equal(names[:8], []string{"A", "x", "", "", "", "", "", ""}) {
		t.Fatalf("the path is %v, the names are %q", path[:8], names[:8])
	}
	p := mime.Structure(example)
	mime.Count(p)
	if !reflect.DeepEqual(p, mime.Structure(example)) {
		t.Fatalf("the part is %+v", p)
	}
}

// What is handed out is the caller's own: nothing of it is kept, and no two lists share any.
func TestWhatIsHandedOutIsTheCallers(t *testing.T) {
	was := slowStructure(example)
	p := mime.Structure(example)
	spoil(&p)
	wantStructure(t, example, was)
	_, _, l := mime.Kind("a/b; c=d")
	l[0].Value = "changed"
	wantKind(t, "a/b; c=d", "a", "b", api.Param{Name: "c", Value: "d"})
	p = mime.Structure(example)
	var lists [][]api.Part
	each(p, func(p api.Part) { lists = append(lists, p.Kids[:cap(p.Kids)]) })
	for i, list := range lists {
		for _, other := range lists[i+1:] {
			if len(list) > 0 && len(other) > 0 && &list[0] == &other[0] {
				t.Fatal("two lists of kids share memory")
			}
		}
	}
	p.Kids[0].ID = append(p.Kids[0].ID, "changed")
	p.Kids[0].Params = append(p.Kids[0].Params, api.Param{Name: "changed"})
	p.Kids[0].Params[0].Name = "changed"
	p.ID[0] = "changed"
	if p.Kids[0].ID[0] != "<j>" || p.Params[0].Name != "boundary" || p.Desc[0] != "d" || p.Kids[1].Kids[0].Type != "text" {
		t.Fatalf("it is %+v", p)
	}
}

// spoil writes over all lists of a part.
func spoil(p *api.Part) {
	for i := range p.Params {
		p.Params[i] = api.Param{Name: "changed"}
	}
	for i := range p.ID {
		p.ID[i] = "changed"
	}
	for i := range p.Desc {
		p.Desc[i] = "changed"
	}
	for i := range p.Kids {
		spoil(&p.Kids[i])
		p.Kids[i].Type = "changed"
	}
}

// P1

func TestLongTexts(t *testing.T) {
	const many = 300000
	const multi = "Content-Type: multipart/x; boundary=b\n\n"
	for _, s := range []string{"a", "\n", "\r\n", "\r", "-", "--", "--b", "--b\n", "--b--\n", "--b \t", "--b \n", "\x00", "\xff", ";", "=", "a/b;", ";c=d", "\"", "\\", "\\\"", "(", multi, "Content-Type: message/rfc822\n\n", "A: b\n c\n", multi + "--b\n"} {
		text := strings.Repeat(s, many/len(s))
		mime.Kind(text)
		mime.Kind("a/b" + text)
		mime.Kind("a/b; c=\"" + text)
		mime.Kind("a/b; c=\"" + text + "\"")
		for _, head := range []string{"", "\n", "A: b\n\n", multi, "Content-Type: message/rfc822\n\n", multi + "--b\n", "Content-Type: multipart/digest; boundary=\"", "Content-Type: a/b; c=\""} {
			p := mime.Structure(head + text)
			if n := mime.Count(p); n > api.MaxParts || nest(p) > api.MaxNest || p.To != len(head)+len(text) {
				t.Fatalf("%q, many times behind %q, is %d parts", s, head, n)
			}
			mime.Section(head+text, []int{1, 1, 1}, text)
			mime.Fields(head+text, []int{1}, true, text, "a")
		}
	}
	b := strings.Repeat("x", many)
	wantKids(t, "Content-Type: multipart/x; boundary="+b+"\n\n--"+b+"\n1\n--"+b+"--", "1")
}

func TestLongPaths(t *testing.T) {
	for _, s := range []string{"", example, nested(20, func(int) bool { return false }, "x"), nested(20, func(int) bool { return true }, "x")} {
		for _, n := range []int{-1, 0, 1, 2, math.MaxInt, math.MinInt} {
			path := slices.Repeat([]int{n}, 1000000)
			for _, what := range append(slices.Clone(knownWords), "x") {
				wantNoSection(t, s, path, what)
			}
			wantNoFields(t, s, path, true)
		}
	}
}

func TestDeepParts(t *testing.T) {
	const deep = 1 << 16
	p := api.Part{}
	for range deep - 1 {
		p = api.Part{Kids: []api.Part{p}}
	}
	if n := mime.Count(p); n != deep {
		t.Fatalf("Count is %d; want %d", n, deep)
	}
	s := strings.Repeat("Content-Type: message/rfc822\n\n", deep) + "A: b\n\nc"
	if n := mime.Count(mime.Structure(s)); n != api.MaxNest {
		t.Fatalf("there are %d parts", n)
	}
}
