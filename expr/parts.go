package expr

import (
	"separatum/api"
	"separatum/tree"
)

// operand is a factor without a NOT.
func (r *reader) operand(done then) step {
	t := r.here()
	switch t.Kind {
	case api.TokName:
		return r.named(done)
	case api.TokNum:
		r.take()
		return done(tree.New(api.NodeNum, t.Pos, "", t.N))
	case api.TokChar:
		r.take()
		return done(tree.New(api.NodeChar, t.Pos, "", t.N))
	case api.TokStr:
		r.take()
		return done(tree.New(api.NodeStr, t.Pos, t.Text, 0))
	}
	if r.stands("{") {
		return r.set(t.Pos, nil, done)
	}
	return r.enclosed(done)
}

// enclosed is an expression in parentheses.
func (r *reader) enclosed(done then) step {
	if !r.takes("(") {
		return nil
	}
	return r.expr(func(x *api.Node) step {
		if !r.takes(")") {
			return nil
		}
		return done(x)
	})
}

// named is an operand that begins with a name: a set with a type, a call, or a designator.
func (r *reader) named(done then) step {
	at := r.here().Pos
	return r.qualident(func(x *api.Node) step {
		if r.stands("{") {
			return r.set(at, x, done)
		}
		return r.selected(x, func(x *api.Node) step {
			if r.stands("(") {
				return r.call(x, done)
			}
			return done(x)
		})
	})
}

func (r *reader) qualident(done then) step {
	if r.here().Kind != api.TokName {
		return nil
	}
	t := r.take()
	x := tree.New(api.NodeName, t.Pos, t.Text, 0)
	for x != nil && r.stands(".") {
		x = r.dot(x)
	}
	if x == nil {
		return nil
	}
	return done(x)
}

func (r *reader) designator(done then) step {
	return r.qualident(func(x *api.Node) step { return r.selected(x, done) })
}

// selected is the designator that begins with x, and goes on here.
func (r *reader) selected(x *api.Node, done then) step {
	for x != nil {
		switch {
		case r.stands("."):
			x = r.dot(x)
		case r.stands("^"):
			x = tree.New(api.NodeDeref, r.take().Pos, "", 0, x)
		case r.stands("["):
			return r.index(x, done)
		default:
			return done(x)
		}
	}
	return nil
}

// dot is what x has by the name behind the dot that stands here; nil, if there stands none.
func (r *reader) dot(x *api.Node) *api.Node {
	at := r.take().Pos
	if r.here().Kind != api.TokName {
		return nil
	}
	return tree.New(api.NodeDot, at, r.take().Text, 0, x)
}

// index is the designator that goes on with the index behind the bracket, or the comma, that stands here.
func (r *reader) index(x *api.Node, done then) step {
	at := r.take().Pos
	return r.expr(func(i *api.Node) step {
		indexed := tree.New(api.NodeIndex, at, "", 0, x, i)
		switch {
		case r.stands(","):
			return r.index(indexed, done)
		case r.takes("]"):
			return r.selected(indexed, done)
		}
		return nil
	})
}

// call is a call of x with the arguments that stand here.
func (r *reader) call(x *api.Node, done then) step {
	at := r.here().Pos
	return r.within(")", r.expr, func(l []*api.Node) step {
		return done(tree.New(api.NodeCall, at, "", 0, append([]*api.Node{x}, l...)...))
	})
}

// set is a set that begins at a place, of a type (nil: none is named), with the elements that stand here.
func (r *reader) set(at complex128, of *api.Node, done then) step {
	return r.within("}", r.element, func(l []*api.Node) step {
		return done(tree.New(api.NodeSet, at, "", 0, append([]*api.Node{of}, l...)...))
	})
}

func (r *reader) labels(done then) step {
	at := r.here().Pos
	return r.list(r.element, func(l []*api.Node) step {
		return done(tree.New(api.NodeLabels, at, "", 0, l...))
	})
}

// element is an expression, or a range.
func (r *reader) element(done then) step {
	at := r.here().Pos
	return r.expr(func(low *api.Node) step {
		if !r.takes("..") {
			return done(low)
		}
		return r.expr(func(high *api.Node) step {
			return done(tree.New(api.NodeRange, at, "", 0, low, high))
		})
	})
}

// within is a list of items, or none, from the symbol that stands here to the one that ends it.
func (r *reader) within(end string, item level, done func(l []*api.Node) step) step {
	r.take()
	if r.takes(end) {
		return done(nil)
	}
	return r.list(item, func(l []*api.Node) step {
		if !r.takes(end) {
			return nil
		}
		return done(l)
	})
}

// list is one item, or more with commas between.
func (r *reader) list(item level, done func(l []*api.Node) step) step {
	var l []*api.Node
	var more then
	more = func(x *api.Node) step {
		l = append(l, x)
		if r.takes(",") {
			return item(more)
		}
		return done(l)
	}
	return item(more)
}
