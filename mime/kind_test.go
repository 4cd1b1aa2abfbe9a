package mime_test

import (
	"math/rand"
	"strings"
	"testing"

	"haversack/api"
)

// P11.1: Kind

func TestKind(t *testing.T) {
	p := func(name, value string) api.Param { return api.Param{Name: name, Value: value} }
	for _, c := range []struct {
		why, s, kind, sub string
		params            []api.Param
	}{
		{"the chapter's example", "Text/HTML; Charset=\"a b\"", "text", "html", []api.Param{p("charset", "a b")}},
		{"no Params", "image/png", "image", "png", nil},
		{"in great letters", "MULTIPART/MIXED", "multipart", "mixed", nil},
		{"letters that are none of A to Z", "a1-._+/!#$%&'*^`{|}~", "a1-._+", "!#$%&'*^`{|}~", nil},
		{"nothing", "", "text", "plain", nil},
		{"blanks alone", " \t ", "text", "plain", nil},
		{"no /", "image", "text", "plain", nil},
		{"no /, but a Param", "image; a=b", "text", "plain", nil},
		{"a blank for a /", "image png", "text", "plain", nil},
		{"a / alone", "/", "text", "plain", nil},
		{"no token ahead of the /", "/png", "text", "plain", nil},
		{"no token ahead of the /, but a Param", "/png; a=b", "text", "plain", nil},
		{"no token behind the /", "image/", "text", "plain", nil},
		{"no token behind the /, but a Param", "image/; a=b", "text", "plain", nil},
		{"no token behind the /, but another /", "image//png", "text", "plain", nil},
		{"a quoted text for a token", "\"image\"/png", "text", "plain", nil},
		{"a quoted text for a token", "image/\"png\"", "text", "plain", nil},
		{"blanks ahead of each thing", " \ta\t /  b\t\t; \tc \t= \td ;\te\t=\t\" f\t\" ", "a", "b", []api.Param{p("c", "d"), p("e", " f\t")}},
		{"no blanks", "a/b;c=d;e=\"f\"", "a", "b", []api.Param{p("c", "d"), p("e", "f")}},
		{"more behind the second token", "a/b c; d=e", "a", "b", nil},
		{"another /", "a/b/c; d=e", "a", "b", nil},
		{"a ; at the end", "a/b;", "a", "b", nil},
		{"a ; behind a Param", "a/b; c=d;", "a", "b", []api.Param{p("c", "d")}},
		{"two ;", "a/b;; c=d", "a", "b", nil},
		{"two ; behind a Param", "a/b; c=d;; e=f", "a", "b", []api.Param{p("c", "d")}},
		{"a Param without a ;", "a/b c=d", "a", "b", nil},
		{"a second Param without a ;", "a/b; c=d e=f; g=h", "a", "b", []api.Param{p("c", "d")}},
		{"a Param without a name", "a/b; =d", "a", "b", nil},
		{"a Param whose name is quoted", "a/b; \"c\"=d", "a", "b", nil},
		{"a Param without a =", "a/b; c", "a", "b", nil},
		{"a Param without a =, then another one", "a/b; c; d=e", "a", "b", nil},
		{"a Param without a =, behind another one", "a/b; c=d; e", "a", "b", []api.Param{p("c", "d")}},
		{"a Param with two =", "a/b; c==d", "a", "b", nil},
		{"a Param without a value", "a/b; c=", "a", "b", nil},
		{"a Param without a value, then another one", "a/b; c=; d=e", "a", "b", nil},
		{"a Param without a value, behind another one", "a/b; c=d; e=", "a", "b", []api.Param{p("c", "d")}},
		{"an empty value in quotes", "a/b; c=\"\"", "a", "b", []api.Param{p("c", "")}},
		{"an empty value in quotes, then another one", "a/b; c=\"\"; d=e", "a", "b", []api.Param{p("c", ""), p("d", "e")}},
		{"a value in quotes that does not end", "a/b; c=\"d", "a", "b", nil},
		{"a value in quotes that does not end, with a Param in it", "a/b; c=\"d; e=f", "a", "b", nil},
		{"a value in quotes that does not end, behind another one", "a/b; c=d; e=\"", "a", "b", []api.Param{p("c", "d")}},
		{"a \" that is quoted", "a/b; c=\"d\\\"e\"", "a", "b", []api.Param{p("c", "d\"e")}},
		{"a \" that is quoted, at the end", "a/b; c=\"d\\\"", "a", "b", nil},
		{"a \\ that is quoted", "a/b; c=\"\\\\\"", "a", "b", []api.Param{p("c", "\\")}},
		{"a \\ at the text's end", "a/b; c=\"d\\", "a", "b", nil},
		{"a \\ at the text's end, behind a Param", "a/b; c=\"d\"; e=\"\\", "a", "b", []api.Param{p("c", "d")}},
		{"a \\ behind the quotes", "a/b; c=\"d\"\\; e=f", "a", "b", []api.Param{p("c", "d")}},
		{"a \\ outside of quotes", "a/b; c=\\d; e=f", "a", "b", nil},
		{"a \\ within a token", "a/b; c=d\\e; f=g", "a", "b", []api.Param{p("c", "d")}},
		{"a token right behind quotes", "a/b; c=\"d\"e; f=g", "a", "b", []api.Param{p("c", "d")}},
		{"quotes right behind a token", "a/b; c=d\"e\"; f=g", "a", "b", []api.Param{p("c", "d")}},
		{"signs in quotes", "a/b; c=\"; d=e/()<>@,:[]?\"; f=g", "a", "b", []api.Param{p("c", "; d=e/()<>@,:[]?"), p("f", "g")}},
		{"any bytes in quotes", "a/b; c=\"\x00\r\n\xff\xc3\xa9\x7f\"", "a", "b", []api.Param{p("c", "\x00\r\n\xff\xc3\xa9\x7f")}},
		{"names in whatever letters, values as they are", "A/b; BOUNDARY=XyZ; cHaRsEt=\"Ab\"", "a", "b", []api.Param{p("boundary", "XyZ"), p("charset", "Ab")}},
		{"a name twice", "a/b; c=d; c=e; C=d", "a", "b", []api.Param{p("c", "d"), p("c", "e"), p("c", "d")}},
		{"a line end is no blank", "a/b;\r\n c=d", "a", "b", nil},
		{"a line end is no blank", "\na/b", "text", "plain", nil},
		{"a remark", "a/b (c); d=e", "a", "b", nil},
		{"bytes of no ASCII", "é/b", "text", "plain", nil},
		{"bytes of no ASCII behind a token", "a/bé; c=d", "a", "b", nil},
		{"a value that goes on with bytes of no ASCII", "a/b; c=dé; e=f", "a", "b", []api.Param{p("c", "d")}},
	} {
		t.Log(c.why)
		wantKind(t, c.s, c.kind, c.sub, c.params...)
	}
}

// Each byte in each token, between the things, and in quotes.
func TestEachByteOfAKind(t *testing.T) {
	one := api.Param{Name: "c", Value: "d"}
	for n := range 256 {
		b := string([]byte{byte(n)})
		small := strings.ToLower(b)
		if n >= 128 {
			small = b
		}
		switch {
		case n == '\t' || n == ' ':
			wantKind(t, b+"a"+b+"/"+b+"b"+b+";"+b+"c"+b+"="+b+"d"+b, "a", "b", one)
			wantKind(t, "x"+b+"a/b;c=d", "text", "plain")
			wantKind(t, "a/b"+b+"x;c=d", "a", "b")
			wantKind(t, "a/b;c"+b+"x=d", "a", "b")
		case n >= 33 && n <= 126 && !strings.Contains("()<>@,;:\\\"/[]?=", b):
			wantKind(t, b+"/"+b+";"+b+"="+b, small, small, api.Param{Name: small, Value: b})
			wantKind(t, "x"+b+"/x"+b+";x"+b+"=x"+b, "x"+small, "x"+small, api.Param{Name: "x" + small, Value: "x" + b})
		default:
			wantKind(t, b+"/b;c=d", "text", "plain")
			wantKind(t, b+"a/b;c=d", "text", "plain")
			wantKind(t, "a/"+b, "text", "plain")
			wantKind(t, "a/"+b+"b;c=d", "text", "plain")
			wantKind(t, "a/b;"+b+"=d", "a", "b")
			wantKind(t, "a/b;c="+b, "a", "b")
			wantKind(t, "a/b;c=d"+b, "a", "b", one)
			if n != '/' {
				wantKind(t, "a"+b+"/b;c=d", "text", "plain")
				wantKind(t, "a"+b+"b;c=d", "text", "plain")
			}
			if n != ';' {
				wantKind(t, "a/b"+b+";c=d", "a", "b")
				wantKind(t, "a/b"+b+"c=d", "a", "b")
				wantKind(t, "a/b;c=d"+b+";e=f", "a", "b", one)
			}
			if n != '=' {
				wantKind(t, "a/b;c"+b+"=d", "a", "b")
				wantKind(t, "a/b;c"+b+"d", "a", "b")
			}
		}
		wantKind(t, "a/b;c=\"x\\"+b+"y\";e=f", "a", "b", api.Param{Name: "c", Value: "x" + b + "y"}, api.Param{Name: "e", Value: "f"})
		wantKind(t, "a/b;c=\"\\"+b, "a", "b")
		if n != '"' && n != '\\' {
			wantKind(t, "a/b;c=\"x"+b+"y\";e=f", "a", "b", api.Param{Name: "c", Value: "x" + b + "y"}, api.Param{Name: "e", Value: "f"})
		}
	}
}

func kindAsSlow(t *testing.T, s string) int {
	t.Helper()
	kind, sub, params := slowKind(s)
	wantKind(t, s, kind, sub, params...)
	return len(params)
}

func TestEachShortKind(t *testing.T) {
	signs := []string{"a", "B", "/", ";", "=", "\"", "\\", " "}
	with := 0
	eachText(signs, 6, func(s string) { kindAsSlow(t, s) })
	for _, begin := range []string{"a/b;", "a/b;c=", "a/b;c=\"", "a/b; C=d;E "} {
		eachText(signs, 5, func(s string) { with += kindAsSlow(t, begin+s) })
	}
	if with < 10000 {
		t.Fatalf("there were just %d Params", with)
	}
}

func TestNearKinds(t *testing.T) {
	for _, s := range []string{
		"Text/HTML; Charset=\"a b\"",
		" a\t/ b ;c = d;e=\"f\\\"\\g\" ; h=\"\"",
	} {
		eachNear(s, func(near string) { kindAsSlow(t, near) })
	}
}

func TestKindsByChance(t *testing.T) {
	r := rand.New(rand.NewSource(11))
	with := 0
	for range 50000 {
		s := one(r, "a/b", "Text / plain", "\tX/y", "a/b", "a", "/", "")
		for range r.Intn(6) {
			s += one(r, ";", " ; ", "\t;", ";", "") + one(r, "a", "Charset", "BOUNDARY", "\tb", "")
			s += one(r, "=", " =", "=\t", "=", "") + one(r, "c", "\"\"", "\"d e\"", " \"\\\"\"", "\"\\", "é", "\"é\\é\"", "")
			s += one(r, "", "", "", "", "", "", " ", "\xff", ";", "x")
		}
		with += kindAsSlow(t, s)
	}
	if with < 10000 {
		t.Fatalf("there were just %d Params", with)
	}
}
