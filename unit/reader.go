package unit

import "separatum/api"

// reader goes through a row from the left.
type reader struct {
	row []api.Token
	at  int
}

// here is the token that was reached: behind the last one stands the end, again and again.
func (r *reader) here() api.Token {
	if r.at >= len(r.row) {
		return api.Token{Kind: api.TokEnd}
	}
	return r.row[r.at]
}

// takes tells whether a token of that kind and text stands here, and goes on behind it.
func (r *reader) takes(kind uint8, text string) bool {
	t := r.here()
	if t.Kind != kind || t.Text != text {
		return false
	}
	r.at++
	return true
}

// name is the name that stands here; false, where a token can't stand.
func (r *reader) name() (s string, ok bool) {
	t := r.here()
	if t.Kind != api.TokName {
		return "", false
	}
	r.at++
	return t.Text, true
}

// word is the reserved word that stands here, or nothing.
func (r *reader) word() string {
	t := r.here()
	if t.Kind != api.TokWord {
		return ""
	}
	return t.Text
}
