package decl

import (
	"slices"

	"separatum/api"
	"separatum/expr"
	"separatum/tree"
)

func (r *reader) record(done then) step {
	at := r.take().Pos
	return r.parted(";", r.fields, func(l []*api.Node) step {
		if !r.takes("END") {
			return nil
		}
		return done(tree.New(api.NodeTRec, at, "", 0, l...))
	})
}

// fields is what tells the field, or the part, that begins here; nil, if neither does.
func (r *reader) fields() level {
	if r.stands("CASE") {
		return r.part
	}
	return r.plain()
}

// plain is what tells the field that begins here; nil, if none does.
func (r *reader) plain() level {
	if !r.isName() {
		return nil
	}
	return r.field
}

func (r *reader) field(done then) step { return r.ofType(api.NodeField, done) }

// ofType is names and the type behind them.
func (r *reader) ofType(kind uint8, done then) step {
	at := r.here().Pos
	l := r.names()
	if l == nil || !r.takes(":") {
		return nil
	}
	return r.aType(func(x *api.Node) step { return done(tree.New(kind, at, "", 0, append(l, x)...)) })
}

// part is a record's part, with the one ; that may stand behind it: nothing else may, ahead of the record's END.
func (r *reader) part(done then) step {
	at := r.here().Pos
	name, ok := r.named("CASE")
	if !ok || !r.takes(":") {
		return nil
	}
	tag := r.qualident()
	if tag == nil || !r.takes("OF") {
		return nil
	}
	return r.parted("|", r.arms, func(l []*api.Node) step {
		return r.otherwise(func(last []*api.Node) step {
			if !r.takes("END") {
				return nil
			}
			r.takes(";")
			if !r.stands("END") {
				return nil
			}
			return done(tree.New(api.NodePart, at, name, 0, slices.Concat([]*api.Node{tag}, l, last)...))
		})
	})
}

// arms is what tells the arm that begins here; nil, if the arms end here.
func (r *reader) arms() level {
	if r.stands("ELSE") || r.stands("END") {
		return nil
	}
	return r.arm
}

func (r *reader) arm(done then) step {
	at := r.here().Pos
	x := r.tell(expr.Labels)
	if x == nil || !r.takes(":") {
		return nil
	}
	return r.parted(";", r.plain, func(l []*api.Node) step {
		return done(tree.New(api.NodeArm, at, "", 0, append([]*api.Node{x}, l...)...))
	})
}

// otherwise is the ELSE of a part, if there is one.
func (r *reader) otherwise(done rest) step {
	at := r.here().Pos
	if !r.takes("ELSE") {
		return done(nil)
	}
	return r.parted(";", r.plain, func(l []*api.Node) step {
		return done([]*api.Node{tree.New(api.NodeElse, at, "", 0, l...)})
	})
}
