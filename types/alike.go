package types

import "separatum/api"

// Alike tells whether the types a and b are alike.
func (t *Table) Alike(a, b int) bool {
	w := likeness{t: t, as: map[int]int{}}
	return w.alike(a, b)
}

// likeness is what is known of types while two are held against each other: as leads from a type to another one that it was found to be like. Types that lead to the same one are not held against each other again, so that neither types that lead back to themselves nor those that name the same ones again and again make this long.
type likeness struct {
	t  *Table
	as map[int]int
}

// alike tells whether nothing tells the types a and b apart.
func (w *likeness) alike(a, b int) bool {
	x, y := w.t.at(a), w.t.at(b)
	switch {
	case x.Kind != y.Kind || x.Kind == api.KindNone:
		return false
	case a == b:
		return true
	case x.Kind == api.KindOpen:
		return x.Base == y.Base
	case x.Kind != api.KindProc || x.Result != y.Result || len(x.Params) != len(y.Params):
		return false
	}
	return !w.join(a, b) || w.params(x.Params, y.Params)
}

// join makes one lead to the other, and tells whether it did: not, if both lead to the same one already.
func (w *likeness) join(a, b int) bool {
	a, b = w.end(a), w.end(b)
	if a == b {
		return false
	}
	w.as[a] = b
	return true
}

// end is where the type i leads to. It leads there at once from then on: to go through all again and again would be long.
func (w *likeness) end(i int) int {
	next, is := w.as[i]
	if !is {
		return i
	}
	last := w.end(next)
	w.as[i] = last
	return last
}

// params tells whether both rows, which are as long as each other, are of parameters that are alike.
func (w *likeness) params(a, b []api.Param) bool {
	for i, p := range a {
		if p.Var != b[i].Var || !w.alike(p.Type, b[i].Type) {
			return false
		}
	}
	return true
}
