package mime_test

import (
	"math/rand"
	"strings"
	"testing"

	"haversack/api"
	"haversack/mime"
)

// P11.1: Structure, Count

func TestStructure(t *testing.T) {
	wantStructure(t, "", api.Part{Type: "text", Sub: "plain", Enc: "7bit"})
	wantStructure(t, "A: b\r\n\r\nc", api.Part{Type: "text", Sub: "plain", Enc: "7bit", From: 8, To: 9})
	wantStructure(t, "A: b", api.Part{Type: "text", Sub: "plain", Enc: "7bit", From: 4, To: 4})
	wantStructure(t, "\nc\r\nd\n", api.Part{Type: "text", Sub: "plain", Enc: "7bit", From: 1, To: 6, Lines: 2})
	wantStructure(t, "Content-Type: multipart/x; boundary=b\n\nahead\n--b\nContent-Type: IMAGE/png; n=v\n\nc\nd\n\n--b\n--b--\nbehind\n", api.Part{
		Type: "multipart", Sub: "x", Params: []api.Param{{Name: "boundary", Value: "b"}}, Enc: "7bit", From: 39, To: 101, Lines: 10,
		Kids: []api.Part{
			{Type: "image", Sub: "png", Params: []api.Param{{Name: "n", Value: "v"}}, Enc: "7bit", Head: 49, From: 79, To: 83, Lines: 2},
			{Type: "text", Sub: "plain", Enc: "7bit", Head: 88, From: 88, To: 88},
		},
	})
	wantStructure(t, "content-type: message/rfc822\n\nContent-Type: a/b\n\nc\n", api.Part{
		Type: "message", Sub: "rfc822", Enc: "7bit", From: 30, To: 51, Lines: 3,
		Kids: []api.Part{{Type: "a", Sub: "b", Enc: "7bit", Head: 30, From: 49, To: 51, Lines: 1}},
	})
}

// The kind of a part, of the whole message and of a multipart's alike.
func TestKindOfAPart(t *testing.T) {
	for _, c := range []struct{ why, head, wanted string }{
		{"no header", "", "text/plain"},
		{"no content-type", "A: b\n", "text/plain"},
		{"a content-type", "Content-Type: a/b\n", "a/b"},
		{"in other letters", "cONTENT-tYPE: A/B\r\n", "a/b"},
		{"two of them", "Content-Type: a/b\nX: y\ncontent-type: c/d\n", "a/b"},
		{"two of them, the first no kind", "Content-Type: a\nContent-Type: c/d\n", "text/plain"},
		{"one that is folded", "Content-Type: a\n /\r\n\tb\r\n ; c=d\n", "a/b"},
		{"one that is folded ahead of all", "Content-Type:\r\n a/b\r\n", "a/b"},
		{"one that is no kind", "Content-Type: a\n", "text/plain"},
		{"one that is no kind, with a Param", "Content-Type: multipart; boundary=b\n", "text/plain"},
		{"an empty one", "Content-Type:\n", "text/plain"},
		{"one that is no field", "Content-Type : a/b\n", "text/plain"},
		{"one that goes on no field", " Content-Type: a/b\n", "text/plain"},
		{"another field that begins so", "Content-Type-X: a/b\nX-Content-Type: c/d\n", "text/plain"},
		{"a message that is no rfc822", "Content-Type: message/partial\n", "message/partial"},
		{"an rfc822 that is no message", "Content-Type: x/rfc822\n", "x/rfc822"},
		{"a digest that is no multipart", "Content-Type: x/digest; boundary=d\n", "x/digest"},
	} {
		t.Log(c.why)
		text := c.head + "\n--d\n\nContent-Type: x/y\n"
		wantOutline(t, text, c.wanted)
		wantOutline(t, "Content-Type: multipart/mixed; boundary=b\n\n--b\n"+text+"\n--b--", "multipart/mixed("+c.wanted+")")
		wantOutline(t, "Content-Type: message/rfc822\n\n"+text, "message/rfc822("+c.wanted+")")
	}
	wantOutline(t, "A: b\n\nContent-Type: a/b\n\n", "text/plain")
}

func TestFoldedParams(t *testing.T) {
	p := mime.Structure("Content-Type: a/b;\r\n Charset=\"x\r\n\ty\" ;\n d\n =\n e\n\n")
	if p.Type != "a" || p.Sub != "b" || len(p.Params) != 2 || p.Params[0] != (api.Param{Name: "charset", Value: "x\ty"}) || p.Params[1] != (api.Param{Name: "d", Value: "e"}) {
		t.Fatalf("it is %+v", p)
	}
}

// A digest's parts are messages, but those that tell a kind, and but what is within them.
func TestDigest(t *testing.T) {
	const digest = "Content-Type: Multipart/Digest; boundary=b\n\n"
	for _, c := range []struct{ why, text, wanted string }{
		{"no kind", "X: y\n\nA: b\n\nc", "message/rfc822(text/plain)"},
		{"nothing", "", "message/rfc822(text/plain)"},
		{"no header", "\nA: b\n", "message/rfc822(text/plain)"},
		{"a kind", "Content-Type: a/b\n\nA: b\n\nc", "a/b"},
		{"that of a message", "Content-Type: message/rfc822\n\nContent-Type: a/b\n\nc", "message/rfc822(a/b)"},
		{"what is no kind", "Content-Type: a\n\nContent-Type: a/b\n\nc", "text/plain"},
		{"an empty one", "Content-Type:\n\n", "text/plain"},
		{"a multipart within", "Content-Type: multipart/mixed; boundary=c\n\n--c\n\n--c--", "multipart/mixed(text/plain)"},
		{"a digest within", "Content-Type: multipart/digest; boundary=c\n\n--c\n\n--c--", "multipart/digest(message/rfc822(text/plain))"},
		{"a multipart in a message", "\nContent-Type: multipart/mixed; boundary=c\n\n--c\n\n--c\n--c--", "message/rfc822(multipart/mixed(text/plain text/plain))"},
	} {
		t.Log(c.why)
		wantOutline(t, digest+"--b\n"+c.text+"\n--b--\n", "multipart/digest("+c.wanted+")")
		wantOutline(t, digest+"--b\n"+c.text+"\n--b\n\n--b", "multipart/digest("+c.wanted+" message/rfc822(text/plain) message/rfc822(text/plain))")
	}
	wantOutline(t, "Content-Type: message/digest; boundary=b\n\n--b\n\n--b--\n", "message/digest")
}

func TestIDDescAndEnc(t *testing.T) {
	text := func(name, value string) []string {
		if name == "" {
			return nil
		}
		return []string{value}
	}
	for _, c := range []struct{ why, fields, is, value, enc string }{
		{"without it", "X: y\n", "", "", "7bit"},
		{"with it", "NAME: Ab C\n", "is", "Ab C", "ab c"},
		{"in other letters", "name:<AÉ>\r\n", "is", "<AÉ>", "<aÉ>"},
		{"with it twice", "NAME: A\nname: B\n", "is", "A", "a"},
		{"with it empty", "NAME:\n", "is", "", ""},
		{"with it empty, and then not", "NAME: \nNAME: b\n", "is", "", ""},
		{"with it folded", "NAME: \r\n a\r\n\tB \n", "is", "a\tB", "a\tb"},
		{"with bytes of no UTF-8", "NAME: \xffA\x00\n", "is", "\xffA\x00", "\xffa\x00"},
		{"with no field", "NAME : a\n", "", "", "7bit"},
		{"behind the header", "X: y\n\nNAME: a\n", "", "", "7bit"},
	} {
		t.Log(c.why)
		for _, name := range []string{"Content-ID", "Content-Description", "Content-Transfer-Encoding"} {
			s := strings.NewReplacer("NAME", name, "name", strings.ToLower(name)).Replace(c.fields) + "\n"
			wanted := api.Part{Type: "text", Sub: "plain", Enc: "7bit", To: len(s)}
			wanted.From = strings.Index(s, "\n\n") + 2
			wanted.Lines = strings.Count(s[wanted.From:], "\n")
			switch name {
			case "Content-ID":
				wanted.ID = text(c.is, c.value)
			case "Content-Description":
				wanted.Desc = text(c.is, c.value)
			default:
				wanted.Enc = c.enc
			}
			wantStructure(t, s, wanted)
			kid := mime.Structure("Content-Type: multipart/x; boundary=b\n\n--b\n" + s + "\n--b--").Kids[0]
			wanted.Head, wanted.From, wanted.To = kid.Head, kid.Head+wanted.From, kid.Head+wanted.To
			if !same(kid, wanted) {
				t.Fatalf("the part is %+v; want %+v", kid, wanted)
			}
		}
	}
	p := mime.Structure("content-id: a\ncontent-description: b\ncontent-transfer-encoding: BASE64\nid: c\nmessage-id: d\n\n")
	if len(p.ID) != 1 || p.ID[0] != "a" || len(p.Desc) != 1 || p.Desc[0] != "b" || p.Enc != "base64" {
		t.Fatalf("it is %+v", p)
	}
}

func TestLines(t *testing.T) {
	for _, c := range []struct {
		content string
		wanted  int
	}{{"", 0}, {"a", 0}, {"\n", 1}, {"\r\n", 1}, {"a\n", 1}, {"a\nb", 1}, {"a\r\nb\r\n", 2}, {"\r", 0}, {"\n\n\n", 3}, {"a\r\r\n\rb", 1}} {
		for _, head := range []string{"A: b\n\n", "\r\n", "A: b\r\nC:\r\n d\r\n\r\n"} {
			if got := mime.Structure(head + c.content).Lines; got != c.wanted {
				t.Fatalf("%q has %d lines; want %d", head+c.content, got, c.wanted)
			}
			s := "Content-Type: multipart/x; boundary=b\n\n--b\n" + head + c.content + "\r\n--b--\n"
			if got := mime.Structure(s).Kids[0].Lines; got != c.wanted {
				t.Fatalf("the part of %q has %d lines; want %d", s, got, c.wanted)
			}
		}
	}
}

func TestBoundaries(t *testing.T) {
	const content = "\n\n--b\n\n1\n--c\n\n2\n--\n\n3\n"
	for _, c := range []struct {
		why, kind string
		wanted    []string
	}{
		{"one", "multipart/x; boundary=b", []string{"\n1\n--c\n\n2\n--\n\n3\n"}},
		{"one in quotes", "multipart/x; boundary=\"c\"", []string{"\n2\n--\n\n3\n"}},
		{"its name in great letters", "MULTIPART/X; BOUNDARY=b", []string{"\n1\n--c\n\n2\n--\n\n3\n"}},
		{"its value in great letters", "multipart/x; boundary=B", nil},
		{"none", "multipart/x", nil},
		{"others", "multipart/x; bound=b; boundaryy=b; a=boundary", nil},
		{"an empty one", "multipart/x; boundary=\"\"", nil},
		{"one that does not end", "multipart/x; boundary=\"b", nil},
		{"two", "multipart/x; boundary=b; boundary=c", []string{"\n1\n--c\n\n2\n--\n\n3\n"}},
		{"two", "multipart/x; boundary=c; boundary=b", []string{"\n2\n--\n\n3\n"}},
		{"two, the first in no line", "multipart/x; boundary=d; boundary=b", nil},
		{"two, the first empty", "multipart/x; boundary=\"\"; boundary=c", []string{"\n2\n--\n\n3\n"}},
		{"two, both empty", "multipart/x; boundary=\"\"; boundary=\"\"", nil},
		{"behind another Param", "multipart/x; a=c; boundary=b", []string{"\n1\n--c\n\n2\n--\n\n3\n"}},
		{"of no multipart", "text/x; boundary=b", nil},
		{"of no multipart", "multipart-x/multipart; boundary=b", nil},
		{"of a message that is no rfc822", "message/partial; boundary=b", nil},
	} {
		t.Log(c.why)
		wantKids(t, "Content-Type: "+c.kind+content, c.wanted...)
	}
	wantKids(t, "Content-Type: message/rfc822; boundary=b"+content, content[2:])
}

// What a boundary is made of has no meaning of its own.
func TestBoundariesOfAllBytes(t *testing.T) {
	for _, b := range []string{"-", "--", "---", "a--", "--a", ".*", "a b", " ", "  ", "a ", " a", "\t", "a\t", "\\", "\"", "\x00", "\xff", "é", "a:b", strings.Repeat("x", 1000)} {
		quoted := strings.NewReplacer("\\", "\\\\", "\"", "\\\"").Replace(b)
		head := "Content-Type: multipart/x; boundary=\"" + quoted + "\"\n\n"
		wantKids(t, head+"--"+b+"\n\n1\n--"+b+" \t\r\n\n2\n--"+b+"--\t\n\n--"+b+"\n\n3\n", "\n1", "\n2")
		wantKids(t, head+"--"+b+"\n\n1\n-"+b+"\n--"+b+"x\n "+"--"+b+"\n", "\n1\n-"+b+"\n--"+b+"x\n --"+b+"\n")
	}
}

func TestBorders(t *testing.T) {
	for _, c := range []struct {
		why, content string
		wanted       []string
	}{
		{"no content", "", nil},
		{"none", "a\n\nb", nil},
		{"one at the beginning", "--b\n1", []string{"1"}},
		{"one alone", "--b\n", []string{""}},
		{"one alone, at the content's end", "--b", []string{""}},
		{"one at the content's end", "--b\n1\n--b", []string{"1", ""}},
		{"one ahead of the content's end", "--b\n1\n--b\n", []string{"1", ""}},
		{"the last one at the content's end", "--b\n1\n--b--", []string{"1"}},
		{"the last one ahead of the content's end", "--b\n1\n--b--\n", []string{"1"}},
		{"with blanks behind", "--b \t \n1\n--b\t\n2\n--b-- \n3", []string{"1", "2"}},
		{"with blanks behind at the end", "--b\n1\n--b \t", []string{"1", ""}},
		{"with blanks behind the last one at the end", "--b\n1\n--b--\t ", []string{"1"}},
		{"with 13 10 behind", "--b\r\n1\r\n--b\r\n2\r\n--b--\r\n3", []string{"1", "2"}},
		{"with blanks and 13 10 behind", "--b \r\n1\r\n--b\t\r\n2\r\n--b-- \r\n3", []string{"1", "2"}},
		{"with a 13 behind at the end", "--b\n1\n--b\r", []string{"1\n--b\r"}},
		{"with a 13 behind the last one at the end", "--b\n1\n--b--\r", []string{"1\n--b--\r"}},
		{"with two 13 behind", "--b\n1\n--b\r\r\n2", []string{"1\n--b\r\r\n2"}},
		{"with blanks behind a 13", "--b\n1\n--b\r \n2", []string{"1\n--b\r \n2"}},
		{"with other bytes behind", "--b\n1\n--bb\n--b.\n--b x\n--b\x00\n--b\v\n--b\u00a0\n2", []string{"1\n--bb\n--b.\n--b x\n--b\x00\n--b\v\n--b\u00a0\n2"}},
		{"with other bytes behind the last one", "--b\n1\n--b--b\n--b---\n--b----\n--b-- x\n2", []string{"1\n--b--b\n--b---\n--b----\n--b-- x\n2"}},
		{"with blanks ahead of its last --", "--b\n1\n--b --\n2", []string{"1\n--b --\n2"}},
		{"with one - behind", "--b\n1\n--b-\n--b- -\n2", []string{"1\n--b-\n--b- -\n2"}},
		{"with bytes ahead", "--b\n1\n --b\nx--b\n---b\n\r--b\n-b\nb\n2", []string{"1\n --b\nx--b\n---b\n\r--b\n-b\nb\n2"}},
		{"in great letters", "--b\n1\n--B\n2", []string{"1\n--B\n2"}},
		{"behind a 13 alone", "--b\n1\r--b\n2", []string{"1\r--b\n2"}},
		{"one right behind another", "--b\n--b\n1\n--b\n--b\n--b--", []string{"", "1", "", ""}},
		{"the last one right behind another", "--b\n--b--", []string{""}},
		{"the last one first", "--b--\n--b\n1\n--b--", nil},
		{"the last one alone", "--b--", nil},
		{"the last one missing", "--b\n1\n--b\n2\r\n", []string{"1", "2\r\n"}},
		{"the last one twice", "--b\n1\n--b--\n--b\n2\n--b--\n", []string{"1"}},
		{"what stands ahead of the first", "a\n-b\n--c\n\n--b\n1\n--b--", []string{"1"}},
		{"what stands behind the last", "--b\n1\n--b--\na\n--b\n--b\n2\n--c\n", []string{"1"}},
		{"an empty text", "--b\n\n--b\n\r\n--b--", []string{"", ""}},
		{"two line ends", "--b\n\n\n--b\n\r\n\r\n--b\n\n\r\n--b\n\r\n\n--b--", []string{"\n", "\r\n", "\n", "\r\n"}},
		{"a 13 ahead of the line end", "--b\n1\r\r\n--b\n\r\r\n--b\n\r\n\r--b--\n--b--", []string{"1\r", "\r", "\r\n\r--b--"}},
		{"a line end at the content's end", "--b\n1\n--b\n\n", []string{"1", "\n"}},
		{"a line end at the content's end, 13 10", "--b\r\n\r\n", []string{"\r\n"}},
		{"no line end at the content's end", "--b\n1", []string{"1"}},
		{"ends of both kinds", "--b\r\n1\n--b\n2\r\n--b--", []string{"1", "2"}},
		{"with a field that goes on", "--b\nA: b\n --b\n--b--", []string{"A: b\n --b"}},
		{"with a text of no header", "--b\nA: b\n--b\nA: b\n\n--b--", []string{"A: b", "A: b\n"}},
	} {
		t.Log(c.why)
		for _, head := range []string{"Content-Type: multipart/x; boundary=b\n\n", "A: b\r\nContent-Type: Multipart/Alternative;\r\n boundary=\"b\"\r\n\r\n"} {
			wantKids(t, head+c.content, c.wanted...)
			allAsSlow(t, head+c.content)
		}
	}
	wantKids(t, "Content-Type: multipart/x; boundary=b\n--b\n1\n--b--")
	wantKids(t, "Content-Type: multipart/x; boundary=b")
	wantKids(t, "Content-Type: multipart/x; boundary=b\n")
}

// Each byte ahead of a border, within it, and behind it, and behind the last one.
func TestEachByteOfABorder(t *testing.T) {
	const head = "Content-Type: multipart/x; boundary=b\n\n--b\n1\n"
	for n := range 256 {
		b := string([]byte{byte(n)})
		switch n {
		case '\n':
			wantKids(t, head+b+"--b\n2", "1\n", "2")
			wantKids(t, head+"--b"+b+"\n2", "1", "\n2")
			wantKids(t, head+"--b--"+b+"\n2", "1")
		case '\t', ' ', '\r':
			wantKids(t, head+b+"--b\n2", "1\n"+b+"--b\n2")
			wantKids(t, head+"--b"+b+"\n2", "1", "2")
			wantKids(t, head+"--b--"+b+"\n2", "1")
		default:
			wantKids(t, head+b+"--b\n2", "1\n"+b+"--b\n2")
			wantKids(t, head+"--b"+b+"\n2", "1\n--b"+b+"\n2")
			wantKids(t, head+"--b--"+b+"\n2", "1\n--b--"+b+"\n2")
		}
		if n == '\t' || n == ' ' || n == '\n' {
			wantKids(t, head+"--b"+b, "1", "")
			wantKids(t, head+"--b--"+b, "1")
		} else {
			wantKids(t, head+"--b"+b, "1\n--b"+b)
			wantKids(t, head+"--b--"+b, "1\n--b--"+b)
		}
		if n != '-' {
			wantKids(t, head+b+"-b\n2", "1\n"+b+"-b\n2")
			wantKids(t, head+"-"+b+"b\n2", "1\n-"+b+"b\n2")
		}
		if n != 'b' {
			wantKids(t, head+"--"+b+"\n2", "1\n--"+b+"\n2")
		}
	}
}

// A border of the outer multipart counts wherever it stands, and ends what is within.
func TestOuterBorders(t *testing.T) {
	const inner = "Content-Type: multipart/y; boundary=c\n\n--c\n\n1\n"
	const outer = "Content-Type: multipart/x; boundary=b\n\n--b\n"
	for _, c := range []struct{ why, s, wanted string }{
		{"in the inner one's part", outer + inner + "--b\n\n2\n--c\n\n3\n--c--\n--b--", "multipart/x(multipart/y(text/plain) text/plain)"},
		{"the last one in the inner one's part", outer + inner + "--b--\n--c\n\n2\n--c--\n", "multipart/x(multipart/y(text/plain))"},
		{"behind the inner one's last", outer + inner + "--c--\n--b\n\n2\n--b--\n", "multipart/x(multipart/y(text/plain) text/plain)"},
		{"the inner one's behind it", outer + inner + "--c\n--b\n--c\n\n2\n--b--\n", "multipart/x(multipart/y(text/plain text/plain) text/plain)"},
		{"in the inner one's header", outer + "Content-Type: multipart/y;\n--b\n boundary=c\n\n--c\n--b--\n", "multipart/x(multipart/y text/plain)"},
		{"with the same boundary", outer + "Content-Type: multipart/y; boundary=b\n\n--b\n\n1\n--b--\n--b\n2\n", "multipart/x(multipart/y text/plain)"},
		{"within a message", outer + "Content-Type: message/rfc822\n\n" + inner + "--b\n--c--\n--b--", "multipart/x(message/rfc822(multipart/y(text/plain)) text/plain)"},
	} {
		t.Log(c.why)
		wantOutline(t, c.s, c.wanted)
		allAsSlow(t, c.s)
	}
}

// nested is a text with so many parts around it that are about it, each of one of two kinds in turn.
func nested(deep int, multi func(n int) bool, text string) string {
	for n := range deep {
		if multi(n) {
			b := strings.Repeat("b", n+1)
			text = "Content-Type: multipart/x; boundary=" + b + "\n\n--" + b + "\n" + text + "\n--" + b + "--"
		} else {
			text = "Content-Type: message/rfc822\n\n" + text
		}
	}
	return text
}

func TestMessagesInMessages(t *testing.T) {
	wantOutline(t, "Content-Type: message/rfc822\n\n", "message/rfc822(text/plain)")
	wantOutline(t, "Content-Type: message/rfc822\n", "message/rfc822(text/plain)")
	wantOutline(t, "Content-Type: Message/RFC822", "message/rfc822(text/plain)")
	wantStructure(t, "Content-Type: message/rfc822\n\n", api.Part{
		Type: "message", Sub: "rfc822", Enc: "7bit", From: 30, To: 30,
		Kids: []api.Part{{Type: "text", Sub: "plain", Enc: "7bit", Head: 30, From: 30, To: 30}},
	})
	wantOutline(t, "Content-Type: message/rfc822\n\nContent-Type: multipart/x; boundary=b\n\n--b\n\n--b\nContent-Type: message/rfc822\n\nA: b\n--b--\n",
		"message/rfc822(multipart/x(text/plain message/rfc822(text/plain)))")
	for deep := range 12 {
		for _, multi := range []func(n int) bool{
			func(int) bool { return false },
			func(int) bool { return true },
			func(n int) bool { return n%2 == 0 },
			func(n int) bool { return n%2 == 1 },
		} {
			s := nested(deep, multi, "Content-Type: a/b\n\nc\n")
			p := mime.Structure(s)
			if n := mime.Count(p); n != min(deep+1, api.MaxNest) {
				t.Fatalf("of %d parts within one another there are %d", deep+1, n)
			}
			for len(p.Kids) > 0 {
				p = p.Kids[0]
			}
			if (p.Type == "a") != (deep < api.MaxNest) {
				t.Fatalf("of %d parts within one another the last one is %+v", deep+1, p)
			}
			allAsSlow(t, s)
		}
	}
}

// Those that are one of MaxNest parts within one another have no kids, others beside them do.
func TestNestBesideOthers(t *testing.T) {
	deep := nested(9, func(int) bool { return false }, "\nc")
	s := "Content-Type: multipart/x; boundary=y\n\n--y\n" + deep + "\n--y\nContent-Type: message/rfc822\n\n\n--y\n" + deep + "\n--y--\n"
	p := allAsSlow(t, s)
	chain := strings.Repeat("message/rfc822(", 6) + "message/rfc822" + strings.Repeat(")", 6)
	if got, wanted := outline(p), "multipart/x("+chain+" message/rfc822(text/plain) "+chain+")"; got != wanted {
		t.Fatalf("it is %s; want %s", got, wanted)
	}
}

func TestManyParts(t *testing.T) {
	const head = "Content-Type: multipart/x; boundary=b\n\n"
	for _, n := range []int{0, 1, 57, 58, 59, 60, 61, 100, 1000} {
		s := head + strings.Repeat("--b\n\nx\n", n) + "--b--\n"
		p := allAsSlow(t, s)
		if got := mime.Count(p); got != min(n+1, api.MaxParts) || len(p.Kids) != got-1 {
			t.Fatalf("with %d parts there are %d, %d of them kids", n, got, len(p.Kids))
		}
		p = allAsSlow(t, "Content-Type: message/rfc822\n\n"+s)
		if got := mime.Count(p); got != min(n+2, api.MaxParts) {
			t.Fatalf("with a message of %d parts there are %d", n, got)
		}
	}
}

// Parts count in the order in which they are told: a part's own ones ahead of those behind it.
func TestManyNestedParts(t *testing.T) {
	const head = "Content-Type: multipart/x; boundary=b\n\n"
	inner := func(n int) string {
		return "--b\nContent-Type: multipart/y; boundary=c\n\n" + strings.Repeat("--c\n\nx\n", n) + "--c--\n"
	}
	const letter, plain = "--b\nContent-Type: message/rfc822\n\nA: b\n\nc\n", "--b\n\nx\n"
	kinds := func(n int) string { return strings.TrimSuffix(strings.Repeat("text/plain ", n), " ") }
	for _, c := range []struct{ s, wanted string }{
		{inner(57) + plain, "multipart/x(multipart/y(" + kinds(57) + ") text/plain)"},
		{inner(58) + plain, "multipart/x(multipart/y(" + kinds(58) + "))"},
		{inner(59) + plain, "multipart/x(multipart/y(" + kinds(58) + "))"},
		{strings.Repeat(plain, 56) + inner(9) + plain, "multipart/x(" + kinds(56) + " multipart/y(" + kinds(2) + "))"},
		{strings.Repeat(plain, 57) + inner(9) + plain, "multipart/x(" + kinds(57) + " multipart/y(text/plain))"},
		{strings.Repeat(plain, 58) + inner(9) + plain, "multipart/x(" + kinds(58) + " multipart/y)"},
		{strings.Repeat(plain, 59) + inner(9) + plain, "multipart/x(" + kinds(59) + ")"},
		{strings.Repeat(plain, 57) + letter + plain, "multipart/x(" + kinds(57) + " message/rfc822(text/plain))"},
		{strings.Repeat(plain, 58) + letter + plain, "multipart/x(" + kinds(58) + " message/rfc822)"},
		{inner(0) + inner(28) + inner(28) + plain, "multipart/x(multipart/y multipart/y(" + kinds(28) + ") multipart/y(" + kinds(28) + "))"},
		{inner(20) + inner(20) + inner(20) + plain, "multipart/x(multipart/y(" + kinds(20) + ") multipart/y(" + kinds(20) + ") multipart/y(" + kinds(16) + "))"},
	} {
		wantOutline(t, head+c.s+"--b--\n", c.wanted)
		allAsSlow(t, head+c.s+"--b--\n")
	}
	p := allAsSlow(t, head+strings.Repeat(letter, 40))
	if mime.Count(p) != api.MaxParts || len(p.Kids) != 30 || len(p.Kids[28].Kids) != 1 || len(p.Kids[29].Kids) != 0 {
		t.Fatalf("of messages there are %s", outline(p))
	}
}

func TestCount(t *testing.T) {
	leaf := api.Part{Type: "a", Sub: "b"}
	with := func(kids ...api.Part) api.Part { return api.Part{Kids: kids} }
	for _, c := range []struct {
		p      api.Part
		wanted int
	}{
		{api.Part{}, 1},
		{leaf, 1},
		{api.Part{Kids: []api.Part{}}, 1},
		{with(leaf), 2},
		{with(leaf, leaf, leaf), 4},
		{with(leaf, with(leaf, with(leaf)), with()), 7},
		{with(with(with(with(leaf)))), 5},
		{with(make([]api.Part, 100)...), 101},
	} {
		if got := mime.Count(c.p); got != c.wanted {
			t.Fatalf("Count(%s) = %d; want %d", outline(c.p), got, c.wanted)
		}
	}
}

// Each short content of a multipart, and each short text of pieces that make headers and borders.
func TestEachShortContent(t *testing.T) {
	parts := 0
	eachText([]string{"--b", "--", "\n", "\r\n", " ", "x"}, 7, func(s string) {
		parts += len(asSlow(t, "Content-Type: multipart/x; boundary=b\n\n"+s).Kids)
	})
	if parts < 10000 {
		t.Fatalf("there were just %d parts", parts)
	}
	parts = 0
	eachText([]string{"--b", "\n", "Content-Type:", "multipart/digest;boundary=b", "message/rfc822", "\n\n--b\n"}, 5, func(s string) {
		parts += mime.Count(asSlow(t, "Content-Type: multipart/digest; boundary=b\n\n--b\n"+s))
		parts += mime.Count(asSlow(t, "Content-Type: message/rfc822\n\n"+s))
		asSlow(t, s)
	})
	if parts < 10000 {
		t.Fatalf("there were just %d parts", parts)
	}
}

func TestNearMessages(t *testing.T) {
	for _, s := range []string{
		"A: b\r\n\r\nc",
		"Content-Type: multipart/x; boundary=b\n\na\n--b\n\n1\r\n--b \n--b--\t\r\nc\n",
		"content-type: message/rfc822\nContent-ID: i\n\nContent-Type: multipart/digest;\n boundary=\"b\"\n\n--b\nContent-Description: d\nContent-Transfer-Encoding: E\n\n\n1\n--b--",
	} {
		eachNear(s, func(near string) { asSlow(t, near) })
	}
}

// partByChance is a text that is mostly made as parts are, with faults here and there; the deeper it is, the fewer stand side by side.
func partByChance(r *rand.Rand, deep int) string {
	end := one(r, "\n", "\r\n")
	fields := chance(r, 2, "A: b"+end, "Content-ID: <i>"+end, "content-description:"+end+" d"+end, "Content-Transfer-Encoding: Base64"+end, " on"+end, "no field"+end)
	if deep == 0 || r.Intn(6) == 0 {
		return fields + chance(r, 1, "Content-Type: a/b; c=d"+end, "Content-Type: x"+end) + chance(r, 3, end, "text", "--b", "--c--", " ", "\r")
	}
	if r.Intn(3) == 0 {
		return fields + "Content-Type: message/rfc822" + end + end + partByChance(r, deep-1)
	}
	b := one(r, "b", "c", "b b", "--", "d", "e", "f") + one(r, "", "x", "y", "z", "-")
	s := fields + "Content-Type: multipart/" + one(r, "mixed", "Digest") + ";" + one(r, " ", end+" ") + "boundary=\"" + b + "\"" + end + end + chance(r, 1, "ahead"+end)
	for range r.Intn(max(3, 10-deep)) {
		s += "--" + b + one(r, "", "", "", "", "", " ", "\t", "", "", "--", "x") + end + partByChance(r, deep-1) + one(r, end, end, end, end, end, "")
	}
	return s + one(r, "--"+b+"--", "--"+b+"--"+end, "", "behind")
}

func TestMessagesByChance(t *testing.T) {
	r := rand.New(rand.NewSource(1))
	parts, deep, most := 0, 0, 0
	for n := range 10000 {
		s := partByChance(r, r.Intn(10))
		p := asSlow(t, s)
		if n%40 == 0 {
			wantSections(t, s, p)
		}
		parts += mime.Count(p)
		if mime.Count(p) == api.MaxParts {
			most++
		}
		if nest(p) == api.MaxNest {
			deep++
		}
	}
	if parts < 50000 || most < 50 || deep < 100 {
		t.Fatalf("there were just %d parts, %d messages with as many as may be, and %d with as many within one another", parts, most, deep)
	}
	for range 10000 {
		allAsSlow(t, chance(r, 20, "Content-Type:", "multipart/x; boundary=b", "message/rfc822", "multipart/digest; boundary=\"c\"", "\n", "\r\n", "\n\n", "--b", "--c", "--", "--b--\n", " ", "x", "\r"))
	}
}
