package wire

import "haversack/api"

// wayOut looks for MaxLiteral bytes of x in a row and a line's end. By P13.5 a command begins behind them whatever came, so even within a literal that is let go and has more bytes than that.
type wayOut struct {
	many   int  // how many of x have come in a row
	ending bool // they were enough, and a 13 came behind them
}

// found tells whether the way out ends with this byte.
func (w *wayOut) found(b byte) bool {
	enough := w.many >= api.MaxLiteral
	switch {
	case b == '\n':
		*w = wayOut{}
		return enough
	case b == '\r' && enough && !w.ending:
		w.ending = true
	case b == 'x' && !w.ending:
		w.many++
	case b == 'x':
		*w = wayOut{many: 1}
	default:
		*w = wayOut{}
	}
	return false
}
