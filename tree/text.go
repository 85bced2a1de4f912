package tree

import (
	"math"
	"strconv"
	"strings"

	"separatum/api"
	"separatum/place"
)

// nowhere is the text of a Pos that is no place.
const nowhere = "-"

// Text is x as a text.
func Text(x *api.Node) string {
	if len(rising(x)) == 0 {
		return ""
	}
	var b strings.Builder
	walk(x, func(n *api.Node) bool {
		if b.Len() > 0 {
			b.WriteByte(' ')
		}
		if n != nil {
			b.WriteString(head(n))
		}
		return n != nil
	}, func() { b.WriteByte(')') })
	return b.String()
}

// head is the beginning of a node's text, up to its kids.
func head(x *api.Node) string {
	at := place.Text(x.Pos)
	if at == "" {
		at = nowhere
	}
	return "(" + strconv.Itoa(int(x.Kind)) + " " + at + " " + strconv.Itoa(len(x.Name)) + ":" + x.Name + " " + strconv.FormatInt(x.N, 10)
}

// Read is the tree whose text s is.
func Read(s string) (*api.Node, api.Errno) {
	left := rest{s}
	many := 0
	var read func(deep int) (*api.Node, api.Errno)
	read = func(deep int) (*api.Node, api.Errno) {
		if !left.take("(") {
			return nil, api.ErrForm
		}
		if deep > api.MaxDeep {
			return nil, api.ErrDeep
		}
		if many++; many > api.MaxNodes {
			return nil, api.ErrMany
		}
		x, ok := left.head()
		for ok && left.take(" ") {
			k, e := read(deep + 1)
			if e != api.OK {
				return nil, e
			}
			x.Kids = append(x.Kids, k)
		}
		if !ok || !left.take(")") {
			return nil, api.ErrForm
		}
		return x, api.OK
	}
	x, e := read(1)
	if e == api.OK && left.s != "" {
		return nil, api.ErrForm
	}
	return x, e
}

// rest is what is left of a text that is read from the left.
type rest struct{ s string }

// take takes what, if it stands there, and tells whether it did.
func (r *rest) take(what string) bool {
	after, ok := strings.CutPrefix(r.s, what)
	if ok {
		r.s = after
	}
	return ok
}

// head takes what stands between a node's parenthesis and its kids.
func (r *rest) head() (*api.Node, bool) {
	kind, ok := r.number(0, math.MaxUint8)
	if !ok || !r.take(" ") {
		return nil, false
	}
	pos, ok := r.pos()
	if !ok || !r.take(" ") {
		return nil, false
	}
	size, ok := r.number(0, math.MaxInt64)
	if !ok || !r.take(":") || size > int64(len(r.s)) {
		return nil, false
	}
	name := r.s[:size]
	r.s = r.s[size:]
	if !r.take(" ") {
		return nil, false
	}
	n, ok := r.number(math.MinInt64, math.MaxInt64)
	return New(uint8(kind), pos, name, n), ok
}

// pos takes a place's text, or that of none.
func (r *rest) pos() (complex128, bool) {
	if r.take(nowhere) {
		return 0, true
	}
	s, _, _ := strings.Cut(r.s, " ")
	p, ok := place.Read(s)
	return p, ok && r.take(s)
}

// number takes a number from low to high, as it is written: no number has two texts.
func (r *rest) number(low, high int64) (int64, bool) {
	s := r.s[:len(r.s)-len(strings.TrimLeft(r.s, "-0123456789"))]
	n, err := strconv.ParseInt(s, 10, 64)
	if err != nil || n < low || n > high || strconv.FormatInt(n, 10) != s {
		return 0, false
	}
	return n, r.take(s)
}
