package decl

import (
	"separatum/api"
	"separatum/tree"
)

// heading is a procedure's heading; nil, where a token can't stand.
func (r *reader) heading() *api.Node {
	at := r.here().Pos
	name, ok := r.named("PROCEDURE")
	if !ok {
		return nil
	}
	x := r.signature(at, ";", true)
	if x == nil {
		return nil
	}
	return tree.New(api.NodeProc, at, name, 0, x)
}

func (r *reader) procType(done then) step {
	at := r.take().Pos
	return done.with(r.signature(at, ",", false))
}

// signature is the parameters that stand here, with names or without, and what is answered, as the type of a procedure that begins at a place; nil, where a token can't stand.
func (r *reader) signature(at complex128, by string, named bool) *api.Node {
	if !r.takes("(") {
		return tree.New(api.NodeTProc, at, "", 0, nil)
	}
	l, ok := r.params(by, named)
	if !ok {
		return nil
	}
	if !r.takes(":") {
		return tree.New(api.NodeTProc, at, "", 0, append(l, nil)...)
	}
	x := r.qualident()
	if x == nil {
		return nil
	}
	return tree.New(api.NodeTProc, at, "", 0, append(l, x)...)
}

// params is parameters, or none, up to the parenthesis; false, where a token can't stand.
func (r *reader) params(by string, named bool) ([]*api.Node, bool) {
	if r.takes(")") {
		return nil, true
	}
	var l []*api.Node
	for {
		x := r.param(named)
		if x == nil {
			return nil, false
		}
		l = append(l, x)
		if !r.takes(by) {
			return l, r.takes(")")
		}
	}
}

// param is a parameter, with names or without; nil, where a token can't stand.
func (r *reader) param(named bool) *api.Node {
	at := r.here().Pos
	var byRef int64
	if r.takes("VAR") {
		byRef = 1
	}
	var l []*api.Node
	if named {
		l = r.names()
		if l == nil || !r.takes(":") {
			return nil
		}
	}
	x := r.maybeOpen()
	if x == nil {
		return nil
	}
	return tree.New(api.NodeParam, at, "", byRef, append(l, x)...)
}

// maybeOpen is a parameter's type: one by its name, or an open array of that; nil, where a token can't stand.
func (r *reader) maybeOpen() *api.Node {
	if !r.stands("ARRAY") {
		return r.qualident()
	}
	at := r.here().Pos
	if !r.takes("ARRAY", "OF") {
		return nil
	}
	x := r.qualident()
	if x == nil {
		return nil
	}
	return tree.New(api.NodeTOpen, at, "", 0, x)
}
