package expr

import (
	"slices"

	"separatum/api"
	"separatum/tree"
)

// operators are the texts of tokens, and the kinds that these have: a string may have an operator's text, and is none.
type operators map[string]uint8

// levels is an expression's outermost level, which calls the next one, down to the factor.
func (r *reader) levels() level {
	const sym, word = api.TokSym, api.TokWord
	relations := operators{"=": sym, "#": sym, "<": sym, "<=": sym, ">": sym, ">=": sym, "IN": word}
	signs := operators{"+": sym, "-": sym}
	sums := operators{"+": sym, "-": sym, "OR": word}
	products := operators{"*": sym, "/": sym, "DIV": word, "MOD": word, "AND": word}
	nots := operators{"NOT": word}

	factor := apart(r.ahead(nots, true, r.operand))
	term := r.between(products, true, factor, factor)
	simple := r.between(sums, true, r.ahead(signs, false, term), term)
	return r.between(relations, false, simple, simple)
}

// apart is a level that is no call within the one above it, but a step behind it, as is what comes behind it: a row may nest deeper than calls may.
func apart(inner level) level {
	return func(done then) step {
		return func() step {
			return inner(func(x *api.Node) step {
				return func() step { return done(x) }
			})
		}
	}
}

// ahead is the level of what next tells, with operators ahead of it: none, or one, or, if again, more of them.
func (r *reader) ahead(of operators, again bool, next level) level {
	return func(done then) step {
		var l []api.Token
		for again || len(l) == 0 {
			t, ok := r.operator(of)
			if !ok {
				break
			}
			l = append(l, t)
		}
		return next(func(x *api.Node) step {
			for _, t := range slices.Backward(l) {
				x = tree.New(api.NodeUn, t.Pos, t.Text, 0, x)
			}
			return done(x)
		})
	}
}

// between is the level of what first tells, and then, if an operator stands there, of that and what next tells: once, or, if again, more often, hung from the left.
func (r *reader) between(of operators, again bool, first, next level) level {
	return func(done then) step {
		var more then
		more = func(x *api.Node) step {
			t, ok := r.operator(of)
			if !ok {
				return done(x)
			}
			return next(func(y *api.Node) step {
				both := tree.New(api.NodeBin, t.Pos, t.Text, 0, x, y)
				if again {
					return more(both)
				}
				return done(both)
			})
		}
		return first(more)
	}
}

// operator is the one of these that stands here, and goes on behind it.
func (r *reader) operator(of operators) (api.Token, bool) {
	t := r.here()
	kind, ok := of[t.Text]
	if !ok || kind != t.Kind {
		return api.Token{}, false
	}
	return r.take(), true
}
