package stmt

import (
	"separatum/api"
	"separatum/expr"
	"separatum/tree"
)

// firstWords is what tells the statements that begin with a word.
func (r *reader) firstWords() map[string]level {
	return map[string]level{
		"IF":     r.ifs,
		"CASE":   r.cases,
		"WHILE":  r.whiles,
		"REPEAT": r.repeats,
		"LOOP":   r.loops,
		"EXIT":   r.exits,
		"FOR":    r.fors,
		"WITH":   r.withs,
		"RETURN": r.returns,
	}
}

// statement is what tells the statement that begins here; nil, if none does.
func (r *reader) statement() level {
	t := r.here()
	switch t.Kind {
	case api.TokName:
		return r.named
	case api.TokWord:
		return r.words[t.Text]
	}
	return nil
}

// body is the statements that stand here.
func (r *reader) body(done then) step {
	at := r.here().Pos
	return r.parted(";", r.statement, func(l []*api.Node) step {
		return done(tree.New(api.NodeBody, at, "", 0, l...))
	})
}

// closed is a body that a word ends.
func (r *reader) closed(end string, done then) step {
	return r.body(func(x *api.Node) step {
		if !r.takes(word, end) {
			return nil
		}
		return done(x)
	})
}

// otherwise is the body behind ELSE, or nil, if there is no ELSE, and END.
func (r *reader) otherwise(done then) step {
	if r.takes(word, "ELSE") {
		return r.closed("END", done)
	}
	if !r.takes(word, "END") {
		return nil
	}
	return done(nil)
}

// named is a statement that begins with a name: an assignment, or a call.
func (r *reader) named(done then) step {
	first := r.here().Pos
	x := r.tell(expr.Designator)
	if x == nil {
		return nil
	}
	if at := r.here().Pos; r.stands(sym, ":=") {
		y := r.behind(sym, ":=")
		if y == nil {
			return nil
		}
		return done(tree.New(api.NodeAssign, at, "", 0, x, y))
	}
	l, ok := r.args()
	if !ok {
		return nil
	}
	return done(tree.New(api.NodeDo, first, "", 0, append([]*api.Node{x}, l...)...))
}

// args is the arguments that stand here, in parentheses, or none; false, where a token can't stand.
func (r *reader) args() ([]*api.Node, bool) {
	if !r.takes(sym, "(") || r.takes(sym, ")") {
		return nil, true
	}
	var l []*api.Node
	for {
		x := r.tell(expr.Expr)
		if x == nil {
			return nil, false
		}
		l = append(l, x)
		if !r.takes(sym, ",") {
			return l, r.takes(sym, ")")
		}
	}
}

func (r *reader) ifs(done then) step {
	at := r.here().Pos
	var l []*api.Node
	var more step
	more = func() step {
		r.take()
		x := r.ahead(expr.Expr, "THEN")
		if x == nil {
			return nil
		}
		return r.body(func(b *api.Node) step {
			l = append(l, x, b)
			if r.stands(word, "ELSIF") {
				return more
			}
			return r.otherwise(func(b *api.Node) step {
				if b != nil {
					l = append(l, b)
				}
				return done(tree.New(api.NodeIf, at, "", 0, l...))
			})
		})
	}
	return more()
}

func (r *reader) cases(done then) step {
	at := r.take().Pos
	x := r.ahead(expr.Expr, "OF")
	if x == nil {
		return nil
	}
	return r.parted("|", r.arms, func(l []*api.Node) step {
		last := r.here().Pos
		return r.otherwise(func(b *api.Node) step {
			if b != nil {
				l = append(l, tree.New(api.NodeElse, last, "", 0, b))
			}
			return done(tree.New(api.NodeCase, at, "", 0, append([]*api.Node{x}, l...)...))
		})
	})
}

// arms is what tells the arm that begins here; nil, if the arms end here.
func (r *reader) arms() level {
	if r.stands(word, "ELSE") || r.stands(word, "END") {
		return nil
	}
	return r.arm
}

func (r *reader) arm(done then) step {
	at := r.here().Pos
	x := r.tell(expr.Labels)
	if x == nil || !r.takes(sym, ":") {
		return nil
	}
	return r.body(func(b *api.Node) step {
		return done(tree.New(api.NodeArm, at, "", 0, x, b))
	})
}

func (r *reader) whiles(done then) step {
	at := r.take().Pos
	x := r.ahead(expr.Expr, "DO")
	if x == nil {
		return nil
	}
	return r.closed("END", func(b *api.Node) step {
		return done(tree.New(api.NodeWhile, at, "", 0, x, b))
	})
}

func (r *reader) repeats(done then) step {
	at := r.take().Pos
	return r.closed("UNTIL", func(b *api.Node) step {
		x := r.tell(expr.Expr)
		if x == nil {
			return nil
		}
		return done(tree.New(api.NodeRepeat, at, "", 0, b, x))
	})
}

func (r *reader) loops(done then) step {
	at := r.take().Pos
	return r.closed("END", func(b *api.Node) step {
		return done(tree.New(api.NodeLoop, at, "", 0, b))
	})
}

func (r *reader) exits(done then) step {
	return done(tree.New(api.NodeExit, r.take().Pos, "", 0))
}

func (r *reader) fors(done then) step {
	at := r.take().Pos
	if r.here().Kind != api.TokName {
		return nil
	}
	name := r.take().Text
	l, ok := r.counts()
	if !ok || !r.takes(word, "DO") {
		return nil
	}
	return r.closed("END", func(b *api.Node) step {
		return done(tree.New(api.NodeFor, at, name, 0, append(l, b)...))
	})
}

// counts is from where, to where and by how much a FOR goes (nil, if that is left out); false, where a token can't stand.
func (r *reader) counts() ([]*api.Node, bool) {
	from := r.behind(sym, ":=")
	if from == nil {
		return nil, false
	}
	to := r.behind(word, "TO")
	if to == nil {
		return nil, false
	}
	if !r.stands(word, "BY") {
		return []*api.Node{from, to, nil}, true
	}
	by := r.behind(word, "BY")
	return []*api.Node{from, to, by}, by != nil
}

func (r *reader) withs(done then) step {
	at := r.take().Pos
	x := r.ahead(expr.Designator, "DO")
	if x == nil {
		return nil
	}
	return r.closed("END", func(b *api.Node) step {
		return done(tree.New(api.NodeWith, at, "", 0, x, b))
	})
}

func (r *reader) returns(done then) step {
	at := r.take().Pos
	if r.alone() {
		return done(tree.New(api.NodeReturn, at, "", 0))
	}
	x := r.tell(expr.Expr)
	if x == nil {
		return nil
	}
	return done(tree.New(api.NodeReturn, at, "", 0, x))
}

// alone tells whether a RETURN ahead of what stands here has no expression.
func (r *reader) alone() bool {
	t := r.here()
	switch t.Kind {
	case api.TokEnd:
		return true
	case api.TokSym:
		return t.Text == ";" || t.Text == "|"
	case api.TokWord:
		return t.Text == "END" || t.Text == "ELSE" || t.Text == "ELSIF" || t.Text == "UNTIL"
	}
	return false
}
