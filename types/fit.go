package types

import (
	"separatum/api"
	"separatum/konst"
)

// Compatible tells whether the types a and b may stand side by side.
func (t *Table) Compatible(a, b int) bool {
	switch {
	case !t.is(a) || !t.is(b):
		return false
	case t.Base(a) == t.Base(b):
		return true
	case t.kind(a) == api.KindProc && t.Alike(a, b):
		return true
	}
	return t.takes(a, b) || t.takes(b, a)
}

// Assignable tells whether a variable of the type to may become what is of the type from, and has the value v (nil: none that is known).
func (t *Table) Assignable(to, from int, v any) bool {
	switch t.kind(to) {
	case api.KindNone, api.KindOpen, api.KindWhole, api.KindStr, api.KindNil:
		return false
	}
	if n, is := konst.Number(v); is && t.numbered(from) && t.Ordinal(to) {
		return t.within(to, n) && (t.fits(to, from) || t.lettered(to, from))
	}
	if n, is := length(v); is && t.kind(from) == api.KindStr && t.characters(to) {
		return t.room(to, n)
	}
	return t.fits(to, from)
}

// Passes tells whether the parameter p may become what is of the type from, and has the value v (nil: none that is known).
func (t *Table) Passes(p api.Param, from int, v any) bool {
	switch {
	case t.kind(p.Type) == api.KindOpen:
		return t.spread(p.Type, from) || !p.Var && t.at(p.Type).Base == api.TypeChar && t.written(from, v)
	case p.Var:
		return from == p.Type && t.is(from)
	}
	return t.Assignable(p.Type, from, v)
}

// is tells whether the type i is one, and not nothing.
func (t *Table) is(i int) bool { return t.kind(i) != api.KindNone }

// takes tells whether b fits a, which is of a kind that constants alone are of.
func (t *Table) takes(a, b int) bool {
	switch t.kind(a) {
	case api.KindWhole:
		k := t.kind(t.Base(b))
		return k == api.KindInt || k == api.KindCard
	case api.KindNil:
		k := t.kind(b)
		return k == api.KindPtr || k == api.KindHidden || k == api.KindProc
	}
	return false
}

// fits tells whether from may become to, as far as the types tell.
func (t *Table) fits(to, from int) bool {
	return t.Compatible(to, from) || t.Number(to) && t.Number(from)
}

// numbered tells whether constants of the type i may have numbers.
func (t *Table) numbered(i int) bool { return t.Ordinal(i) || t.kind(i) == api.KindStr }

// within tells whether n is within the range of the type i.
func (t *Table) within(i int, n int64) bool {
	low, high, is := t.Range(i)
	return is && n >= low && n <= high
}

// lettered tells whether a string may become a character.
func (t *Table) lettered(to, from int) bool {
	return t.kind(t.Base(to)) == api.KindChar && t.kind(from) == api.KindStr
}

// characters tells whether the type i is an array of characters.
func (t *Table) characters(i int) bool {
	x := t.at(i)
	return x.Kind == api.KindArray && t.kind(t.Base(x.Base)) == api.KindChar
}

// room tells whether the array i has n elements at least.
func (t *Table) room(i, n int) bool {
	low, high, is := t.Range(t.at(i).Index)
	// The difference is taken as one without a sign: low and high may be as far apart as numbers go.
	return n == 0 || is && high >= low && uint64(n-1) <= uint64(high)-uint64(low)
}

// spread tells whether the type from has the elements of the open array i.
func (t *Table) spread(i, from int) bool {
	x := t.at(from)
	return (x.Kind == api.KindArray || x.Kind == api.KindOpen) && x.Base == t.at(i).Base
}

// written tells whether v, of the type from, is what a source writes as a string, or a character.
func (t *Table) written(from int, v any) bool {
	return t.kind(from) == api.KindStr || t.kind(from) == api.KindChar && letter(v)
}

// length is how many bytes a String has, and true; 0 and false of all else.
func length(v any) (int, bool) {
	s, is := v.(api.String)
	return len(s), is
}

// letter tells whether v is a Letter.
func letter(v any) bool {
	_, is := v.(api.Letter)
	return is
}
