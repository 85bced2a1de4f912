package decl

import (
	"separatum/api"
	"separatum/tree"
)

// step is what is done next, and answers what is done then: nil, if nothing is left to do, or if the token that was reached can't stand there.
type step func() step

// then is what is done with a tree that was told.
type then func(x *api.Node) step

// with is what is done with x, if it was told.
func (done then) with(x *api.Node) step {
	if x == nil {
		return nil
	}
	return done(x)
}

// rest is what is done with trees that were told.
type rest func(l []*api.Node) step

// level is a part of the grammar: it tells what stands where the reader is, and goes on with that.
type level func(done then) step

// section is a part that tells any number of trees.
type section func(done rest) step

// reader goes through a row from the left.
type reader struct {
	row      []api.Token
	at       int
	def      bool
	types    map[string]level
	sections map[string]section
}

// begin is a reader at a place of a row, of a definition, or not.
func begin(l []api.Token, at int, def bool) *reader {
	r := &reader{row: l, at: at, def: def}
	r.types = r.typeWords()
	r.sections = r.sectionWords()
	return r
}

// tellAll is what part tells, and the next place; or nothing, and the place of the token that can't stand there.
func (r *reader) tellAll(part section) (l []*api.Node, next int, e api.Errno) {
	if r.at < 0 {
		return nil, 0, api.ErrSyntax
	}
	e = api.ErrSyntax
	s := part(func(told []*api.Node) step {
		l, e = told, api.OK
		return nil
	})
	for s != nil {
		s = s()
	}
	return l, r.at, e
}

// tellOne is tellAll of a part that tells one tree.
func (r *reader) tellOne(part level) (x *api.Node, next int, e api.Errno) {
	_, next, e = r.tellAll(func(done rest) step {
		return part(func(told *api.Node) step {
			x = told
			return done(nil)
		})
	})
	return x, next, e
}

// here is the token that was reached: behind the last one stands the end, again and again.
func (r *reader) here() api.Token {
	if r.at >= len(r.row) {
		return api.Token{Kind: api.TokEnd}
	}
	return r.row[r.at]
}

// take is the token here, and goes on behind it.
func (r *reader) take() api.Token {
	t := r.here()
	r.at++
	return t
}

// stands tells whether that symbol, or word, stands here: a name, or a string, may have its text, and is neither.
func (r *reader) stands(text string) bool {
	kind := api.TokSym
	if 'A' <= text[0] && text[0] <= 'Z' {
		kind = api.TokWord
	}
	t := r.here()
	return t.Kind == kind && t.Text == text
}

// takes tells whether these stand here, one behind the other, and goes on behind them, up to the first that does not.
func (r *reader) takes(texts ...string) bool {
	for _, text := range texts {
		if !r.stands(text) {
			return false
		}
		r.take()
	}
	return true
}

// tell is what a call of a layer below tells here, and goes on behind it; nil, where a token can't stand, and goes on to that one.
func (r *reader) tell(what func(l []api.Token, at int) (*api.Node, int, api.Errno)) *api.Node {
	x, next, _ := what(r.row, r.at)
	r.at = next
	return x
}

// isName tells whether a name stands here.
func (r *reader) isName() bool { return r.here().Kind == api.TokName }

// named is the name behind the word that stands here; false, where a token can't stand.
func (r *reader) named(text string) (name string, ok bool) {
	if !r.takes(text) || !r.isName() {
		return "", false
	}
	return r.take().Text, true
}

// names is one name, or more with commas between; nil, where a token can't stand.
func (r *reader) names() []*api.Node {
	var l []*api.Node
	for r.isName() {
		t := r.take()
		l = append(l, tree.New(api.NodeName, t.Pos, t.Text, 0))
		if !r.takes(",") {
			return l
		}
	}
	return nil
}

// each is what item tells, again and again, as long as a name stands here. Each item, and what comes behind it, are steps of their own, as are those of parted: no calls within the item around them, since a row may nest deeper than calls may.
func (r *reader) each(item level, done rest) step {
	var l []*api.Node
	var more step
	more = func() step {
		if !r.isName() {
			return done(l)
		}
		return item(func(x *api.Node) step {
			l = append(l, x)
			return more
		})
	}
	return more
}

// parted is items that stand here, with a symbol between each two, and any of them left out; item is nil where none begins.
func (r *reader) parted(by string, item func() level, done rest) step {
	var l []*api.Node
	end := func() step { return done(l) }
	var more step
	more = func() step {
		for r.takes(by) {
		}
		tell := item()
		if tell == nil {
			return end
		}
		return tell(func(x *api.Node) step {
			l = append(l, x)
			if r.stands(by) {
				return more
			}
			return end
		})
	}
	return more
}
