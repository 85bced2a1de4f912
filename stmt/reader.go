package stmt

import (
	"separatum/api"
	"separatum/expr"
)

// step is what is done next, and answers what is done then: nil, if nothing is left to do, or if the token that was reached can't stand there.
type step func() step

// then is what is done with a tree that was told.
type then func(x *api.Node) step

// level is a part of the grammar: it tells what stands where the reader is, and goes on with that.
type level func(done then) step

// The kinds of tokens that have one text each.
const (
	sym  = api.TokSym
	word = api.TokWord
)

// reader goes through a row from the left.
type reader struct {
	row   []api.Token
	at    int
	words map[string]level
}

// begin is a reader at a place of a row.
func begin(l []api.Token, at int) *reader {
	r := &reader{row: l, at: at}
	r.words = r.firstWords()
	return r
}

// here is the token that was reached: behind the last one stands the end, again and again.
func (r *reader) here() api.Token {
	if r.at >= len(r.row) {
		return api.Token{Kind: api.TokEnd}
	}
	return r.row[r.at]
}

// take is the token here, and goes on behind it.
func (r *reader) take() api.Token {
	t := r.here()
	r.at++
	return t
}

// stands tells whether that symbol, or word, stands here: a string may have its text, and is none.
func (r *reader) stands(kind uint8, text string) bool {
	t := r.here()
	return t.Kind == kind && t.Text == text
}

// takes tells whether it stands here, and goes on behind it, if it does.
func (r *reader) takes(kind uint8, text string) bool {
	ok := r.stands(kind, text)
	if ok {
		r.take()
	}
	return ok
}

// below is a call of layer 6.
type below func(l []api.Token, at int) (*api.Node, int, api.Errno)

// tell is what a call tells here, and goes on behind it; nil, where a token can't stand, and goes on to that one.
func (r *reader) tell(what below) *api.Node {
	x, next, _ := what(r.row, r.at)
	r.at = next
	return x
}

// behind is the expression behind that symbol, or word; nil, where a token can't stand.
func (r *reader) behind(kind uint8, text string) *api.Node {
	if !r.takes(kind, text) {
		return nil
	}
	return r.tell(expr.Expr)
}

// ahead is what a call tells here, ahead of that word; nil, where a token can't stand.
func (r *reader) ahead(what below, text string) *api.Node {
	x := r.tell(what)
	if x == nil || !r.takes(word, text) {
		return nil
	}
	return x
}

// parted is items that stand here, with a symbol between each two, and any of them left out; item is nil where none begins. Its beginning, its end and each item are steps of their own, no calls within the item around them: a row may nest deeper than calls may.
func (r *reader) parted(by string, item func() level, done func(l []*api.Node) step) step {
	var l []*api.Node
	end := func() step { return done(l) }
	var more step
	more = func() step {
		for r.takes(sym, by) {
		}
		tell := item()
		if tell == nil {
			return end
		}
		return tell(func(x *api.Node) step {
			l = append(l, x)
			if r.stands(sym, by) {
				return more
			}
			return end
		})
	}
	return more
}
