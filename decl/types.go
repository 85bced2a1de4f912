package decl

import (
	"slices"

	"separatum/api"
	"separatum/expr"
	"separatum/tree"
)

// typeWords is what tells the types that begin with a word.
func (r *reader) typeWords() map[string]level {
	return map[string]level{
		"ARRAY":     r.array,
		"RECORD":    r.record,
		"SET":       r.set,
		"POINTER":   r.pointer,
		"PROCEDURE": r.procType,
	}
}

// aType is the type that stands here. It is no call within the type around it, but a step behind it, as is what comes behind it: a row may nest deeper than calls may.
func (r *reader) aType(done then) step {
	return func() step {
		return r.typeHere()(func(x *api.Node) step {
			return func() step { return done(x) }
		})
	}
}

// typeHere is what tells the type that begins here.
func (r *reader) typeHere() level {
	t := r.here()
	if tell := r.types[t.Text]; tell != nil && t.Kind == api.TokWord {
		return tell
	}
	return func(done then) step { return done.with(r.simple()) }
}

// simple is a type that has none within; nil, where a token can't stand.
func (r *reader) simple() *api.Node {
	if r.stands("(") {
		return r.enum()
	}
	if r.stands("[") {
		return r.subrange()
	}
	return r.qualident()
}

// qualident is a type by its name; nil, where a token can't stand.
func (r *reader) qualident() *api.Node {
	at := r.here().Pos
	x := r.tell(expr.Qualident)
	if x == nil {
		return nil
	}
	return tree.New(api.NodeTName, at, "", 0, x)
}

func (r *reader) enum() *api.Node {
	at := r.take().Pos
	l := r.names()
	if l == nil || !r.takes(")") {
		return nil
	}
	return tree.New(api.NodeTEnum, at, "", 0, l...)
}

func (r *reader) subrange() *api.Node {
	at := r.take().Pos
	low := r.tell(expr.Expr)
	if low == nil || !r.takes("..") {
		return nil
	}
	high := r.tell(expr.Expr)
	if high == nil || !r.takes("]") {
		return nil
	}
	return tree.New(api.NodeTSub, at, "", 0, low, high)
}

// array is an array of each index, one within the other.
func (r *reader) array(done then) step {
	var l []*api.Node
	for len(l) == 0 || r.stands(",") {
		at := r.take().Pos
		index := r.simple()
		if index == nil {
			return nil
		}
		l = append(l, tree.New(api.NodeTArray, at, "", 0, index))
	}
	if !r.takes("OF") {
		return nil
	}
	return r.aType(func(x *api.Node) step {
		for _, a := range slices.Backward(l) {
			a.Kids = append(a.Kids, x)
			x = a
		}
		return done(x)
	})
}

func (r *reader) set(done then) step {
	at := r.here().Pos
	if !r.takes("SET", "OF") {
		return nil
	}
	x := r.simple()
	if x == nil {
		return nil
	}
	return done(tree.New(api.NodeTSet, at, "", 0, x))
}

func (r *reader) pointer(done then) step {
	at := r.here().Pos
	if !r.takes("POINTER", "TO") {
		return nil
	}
	return r.aType(func(x *api.Node) step { return done(tree.New(api.NodeTPtr, at, "", 0, x)) })
}
