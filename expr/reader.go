package expr

import "separatum/api"

// step is what is done next, and answers what is done then: nil, if nothing is left to do, or if the token that was reached can't stand there.
type step func() step

// then is what is done with a tree that was told.
type then func(x *api.Node) step

// level is a part of the grammar: it tells what stands where the reader is, and goes on with that.
type level func(done then) step

// reader goes through a row from the left.
type reader struct {
	row  []api.Token
	at   int
	expr level
}

// begin is a reader at a place of a row.
func begin(l []api.Token, at int) *reader {
	r := &reader{row: l, at: at}
	r.expr = r.levels()
	return r
}

// tell is what part tells, and the next place; or nothing, and the place of the token that can't stand there.
func (r *reader) tell(part level) (x *api.Node, next int, e api.Errno) {
	if r.at < 0 {
		return nil, 0, api.ErrSyntax
	}
	s := part(func(told *api.Node) step {
		x = told
		return nil
	})
	for s != nil {
		s = s()
	}
	if x == nil {
		return nil, r.at, api.ErrSyntax
	}
	return x, r.at, api.OK
}

// here is the token that was reached: behind the last one stands the end, again and again.
func (r *reader) here() api.Token {
	if r.at >= len(r.row) {
		return api.Token{Kind: api.TokEnd}
	}
	return r.row[r.at]
}

// take is the token here, and goes on behind it.
func (r *reader) take() api.Token {
	t := r.here()
	r.at++
	return t
}

// stands tells whether that symbol stands here.
func (r *reader) stands(symbol string) bool {
	t := r.here()
	return t.Kind == api.TokSym && t.Text == symbol
}

// takes tells whether that symbol stands here, and goes on behind it, if it does.
func (r *reader) takes(symbol string) bool {
	ok := r.stands(symbol)
	if ok {
		r.take()
	}
	return ok
}
