package resp

import (
	"strconv"
	"strings"

	"haversack/api"
)

// under is the bytes of right lines under way, laid into what it embeds.
type under struct{ strings.Builder }

func (u *under) put(pieces ...string) {
	for _, piece := range pieces {
		u.WriteString(piece)
	}
}

func (u *under) line(l api.Line) {
	u.put(l.Tag, blank)
	switch {
	case l.Tag == goOn:
		u.put(l.Text)
	case l.Status != "":
		u.put(l.Status, blank)
		u.code(l.Code...)
		u.put(l.Text)
	default:
		u.values(l.Vals...)
	}
	u.put(lineEnd)
}

func (u *under) code(l ...api.Val) {
	if len(l) == 0 {
		return
	}
	u.put("[")
	u.values(l...)
	u.put("]", blank)
}

func (u *under) values(l ...api.Val) {
	for i, v := range l {
		if i > 0 {
			u.put(blank)
		}
		u.value(v)
	}
}

func (u *under) value(v api.Val) {
	switch v.Kind {
	case api.ValNil:
		u.put(none)
	case api.ValNumber:
		u.number(v.N)
	case api.ValAtom:
		u.put(v.Text)
	case api.ValString:
		u.string(v.Text)
	case api.ValList:
		u.put("(")
		u.values(v.Kids...)
		u.put(")")
	case api.ValSection:
		u.put(v.Text, "[")
		u.values(v.Kids...)
		u.put("]")
		u.from(v.From...)
	}
}

func (u *under) number(n int) { u.put(strconv.Itoa(n)) }

func (u *under) from(l ...int) {
	for _, n := range l {
		u.put("<")
		u.number(n)
		u.put(">")
	}
}

func (u *under) string(s string) {
	if !quotable(s) {
		u.put("{")
		u.number(len(s))
		u.put("}", lineEnd, s)
		return
	}
	u.put(quote)
	for _, b := range []byte(s) {
		if escaped(b) {
			u.put(escape)
		}
		u.WriteByte(b)
	}
	u.put(quote)
}
