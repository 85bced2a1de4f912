package decl

import (
	"separatum/api"
	"separatum/expr"
	"separatum/stmt"
	"separatum/tree"
)

// sectionWords is what tells the sections, by their first word: a definition has no modules within.
func (r *reader) sectionWords() map[string]section {
	all := map[string]section{
		"CONST":     r.consts,
		"TYPE":      r.typeDecls,
		"VAR":       r.vars,
		"PROCEDURE": r.proc,
		"MODULE":    r.module,
	}
	if r.def {
		delete(all, "MODULE")
	}
	return all
}

// decls is the declarations that stand here, section by section, each one a step of its own.
func (r *reader) decls(done rest) step {
	var l []*api.Node
	var more step
	more = func() step {
		t := r.here()
		tell := r.sections[t.Text]
		if tell == nil || t.Kind != api.TokWord {
			return done(l)
		}
		return tell(func(told []*api.Node) step {
			l = append(l, told...)
			return more
		})
	}
	return more
}

// block is declarations, and the body behind them.
func (r *reader) block(done then) step {
	at := r.here().Pos
	return r.decls(func(l []*api.Node) step {
		x := r.body()
		if x == nil {
			return nil
		}
		return done(tree.New(api.NodeBlock, at, "", 0, append(l, x)...))
	})
}

// body is the body that ends a block: without BEGIN it has nothing, and stands at END; nil, where a token can't stand.
func (r *reader) body() *api.Node {
	x := tree.New(api.NodeBody, r.here().Pos, "", 0)
	if r.takes("BEGIN") {
		x = r.tell(stmt.Body)
	}
	if x == nil || !r.takes("END") {
		return nil
	}
	return x
}

// closes tells whether a block's name stands here, and a semicolon, and goes on behind them, up to what does not.
func (r *reader) closes(name string) bool {
	if !r.isName() || r.here().Text != name {
		return false
	}
	r.take()
	return r.takes(";")
}

func (r *reader) consts(done rest) step {
	r.take()
	return r.each(r.constant, done)
}

func (r *reader) constant(done then) step {
	t := r.take()
	if !r.takes("=") {
		return nil
	}
	x := r.tell(expr.Expr)
	if x == nil || !r.takes(";") {
		return nil
	}
	return done(tree.New(api.NodeConst, t.Pos, t.Text, 0, x))
}

func (r *reader) typeDecls(done rest) step {
	r.take()
	return r.each(r.typeDecl, done)
}

// typeDecl is a name and its type, which a definition may leave out.
func (r *reader) typeDecl(done then) step {
	t := r.take()
	if r.def && r.takes(";") {
		return done(tree.New(api.NodeType, t.Pos, t.Text, 0, nil))
	}
	if !r.takes("=") {
		return nil
	}
	return r.aType(func(x *api.Node) step {
		if !r.takes(";") {
			return nil
		}
		return done(tree.New(api.NodeType, t.Pos, t.Text, 0, x))
	})
}

func (r *reader) vars(done rest) step {
	r.take()
	return r.each(r.variable, done)
}

func (r *reader) variable(done then) step {
	return r.ofType(api.NodeVar, func(x *api.Node) step {
		if !r.takes(";") {
			return nil
		}
		return done(x)
	})
}

// proc is a procedure: of a definition its heading alone.
func (r *reader) proc(done rest) step {
	x := r.heading()
	if x == nil || !r.takes(";") {
		return nil
	}
	if r.def {
		return done([]*api.Node{x})
	}
	return r.block(func(b *api.Node) step {
		if !r.closes(x.Name) {
			return nil
		}
		x.Kids = append(x.Kids, b)
		return done([]*api.Node{x})
	})
}

func (r *reader) module(done rest) step {
	at := r.here().Pos
	name, ok := r.named("MODULE")
	if !ok || !r.takes(";") {
		return nil
	}
	l, ok := r.borders()
	if !ok {
		return nil
	}
	return r.block(func(b *api.Node) step {
		if !r.closes(name) {
			return nil
		}
		return done([]*api.Node{tree.New(api.NodeMod, at, name, 0, append(l, b)...)})
	})
}

// borders is a module's imports, and its export, if it has one; false, where a token can't stand.
func (r *reader) borders() (l []*api.Node, ok bool) {
	for at := r.here().Pos; r.takes("IMPORT"); at = r.here().Pos {
		x := r.list(api.NodeImport, at, 0)
		if x == nil {
			return nil, false
		}
		l = append(l, x)
	}
	at := r.here().Pos
	if !r.takes("EXPORT") {
		return l, true
	}
	var qualified int64
	if r.takes("QUALIFIED") {
		qualified = 1
	}
	x := r.list(api.NodeExport, at, qualified)
	return append(l, x), x != nil
}

// list is names, and a semicolon behind them, as a node that begins at a place; nil, where a token can't stand.
func (r *reader) list(kind uint8, at complex128, n int64) *api.Node {
	l := r.names()
	if l == nil || !r.takes(";") {
		return nil
	}
	return tree.New(kind, at, "", n, l...)
}
