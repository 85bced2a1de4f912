package expr

import (
	"strings"
	"testing"

	"separatum/api"
	"separatum/place"
	"separatum/tree"
)

// grammar is the chapter's, once more, as rules without repetitions: what the calls tell is held against the rows that these rules let be.
var grammar = rules(`
qualident = name | qualident . name
designator = name | designator . name | designator [ exprs ] | designator ^
exprs = expr | exprs , expr
expr = simple | simple relation simple
relation = '=' | # | < | <= | > | >= | IN
simple = term | sign term | simple sum term
sign = + | -
sum = + | - | OR
term = factor | term product factor
product = * | / | DIV | MOD | AND
factor = number | character | string | set | designator | designator args | ( expr ) | NOT factor
set = braces | qualident braces
braces = { } | { elements }
elements = element | elements , element
element = expr | expr .. expr
args = ( ) | ( exprs )
labels = elements
`)

// rule is one way to make what.
type rule struct {
	what string
	of   []string
}

// rules is the rules of a text, by what they make.
func rules(text string) map[string][]rule {
	all := map[string][]rule{}
	for _, line := range strings.Split(strings.TrimSpace(text), "\n") {
		what, ways, _ := strings.Cut(line, " = ")
		for _, way := range strings.Split(ways, " | ") {
			all[what] = append(all[what], rule{what, strings.Fields(strings.ReplaceAll(way, "'", ""))})
		}
	}
	return all
}

// class is what the rules call a token.
func class(t api.Token) string {
	switch t.Kind {
	case api.TokName:
		return "name"
	case api.TokNum:
		return "number"
	case api.TokChar:
		return "character"
	case api.TokStr:
		return "string"
	case api.TokSym, api.TokWord:
		return t.Text
	}
	return "end"
}

// item is a rule that was gone through up to a dot, from a token on.
type item struct {
	what string
	way  int
	dot  int
	from int
}

// chart is, for each place of a row, the items that lead there: a row can go on just if the last of them has some.
type chart [][]item

// opened is the chart of an empty row that is to become what.
func opened(what string) chart {
	return chart{closure(nil, foretold(what, 0))}
}

func foretold(what string, from int) []item {
	var l []item
	for way := range grammar[what] {
		l = append(l, item{what, way, 0, from})
	}
	return l
}

// wants is what the item has behind its dot; nothing, if it is done.
func (i item) wants() string {
	of := grammar[i.what][i.way].of
	if i.dot == len(of) {
		return ""
	}
	return of[i.dot]
}

// moved is those of l that want x, with the dot behind it.
func moved(l []item, x string) []item {
	var r []item
	for _, i := range l {
		if i.wants() == x {
			i.dot++
			r = append(r, i)
		}
	}
	return r
}

// closure is all items that follow from those of l, at the place behind the chart c.
func closure(c chart, l []item) []item {
	seen := map[item]bool{}
	var all []item
	add := func(more []item) {
		for _, i := range more {
			if !seen[i] {
				seen[i] = true
				all = append(all, i)
			}
		}
	}
	add(l)
	for n := 0; n < len(all); n++ {
		i := all[n]
		if w := i.wants(); w != "" {
			add(foretold(w, len(c)))
		} else if i.from < len(c) {
			add(moved(c[i.from], i.what))
		}
	}
	return all
}

// behind is the chart of the row with one token more; false, if it can't go on so.
func (c chart) behind(t api.Token) (chart, bool) {
	l := moved(c[len(c)-1], class(t))
	if len(l) == 0 {
		return nil, false
	}
	return append(c[:len(c):len(c)], closure(c, l)), true
}

// complete tells whether the row is what.
func (c chart) complete(what string) bool {
	for _, i := range c[len(c)-1] {
		if i.what == what && i.from == 0 && i.wants() == "" {
			return true
		}
	}
	return false
}

// reading is a call that tells what stands at a place of a row.
type reading func(l []api.Token, at int) (*api.Node, int, api.Errno)

// readings is the calls, by what they tell.
func readings() map[string]reading {
	return map[string]reading{"expr": Expr, "designator": Designator, "qualident": Qualident, "labels": Labels}
}

func named(s string) api.Token { return api.Token{Kind: api.TokName, Text: s} }
func num(n int64) api.Token    { return api.Token{Kind: api.TokNum, N: n} }
func char(n int64) api.Token   { return api.Token{Kind: api.TokChar, N: n} }
func str(s string) api.Token   { return api.Token{Kind: api.TokStr, Text: s} }
func sym(s string) api.Token   { return api.Token{Kind: api.TokSym, Text: s} }
func word(s string) api.Token  { return api.Token{Kind: api.TokWord, Text: s} }

// few is tokens of each kind that makes a difference, and some that are never an expression's.
func few() []api.Token {
	l := []api.Token{named("a"), num(1), word("NOT"), word("END"), {}}
	for _, s := range strings.Fields(". , [ ] ( ) { } ^ .. + * = ;") {
		l = append(l, sym(s))
	}
	return l
}

// all is tokens of each kind, each symbol, and each reserved word.
func all() []api.Token {
	l := []api.Token{named("a"), num(1), char(65), str("s"), {}}
	for _, s := range strings.Fields("+ - * / := . , ; ( [ { ^ = # < > <= >= .. : ) ] } |") {
		l = append(l, sym(s))
	}
	for _, s := range strings.Fields(`AND ARRAY BEGIN BY CASE CONST DEFINITION DIV DO ELSE ELSIF END EXIT EXPORT FOR FROM IF IMPLEMENTATION IMPORT IN
LOOP MOD MODULE NOT OF OR POINTER PROCEDURE QUALIFIED RECORD REPEAT RETURN SET THEN TO TYPE UNTIL VAR WHILE WITH`) {
		l = append(l, word(s))
	}
	return l
}

// put is l with a place for each token, by how many are ahead of it.
func put(l ...api.Token) []api.Token {
	r := make([]api.Token, len(l))
	for i, t := range l {
		t.Pos, t.End = place.Of(1, i+1), place.Of(1, i+2)
		r[i] = t
	}
	return r
}

// holds holds the answer of a call at a place against what must come: a tree, with all tokens up to next, or an error there.
func holds(t *testing.T, what string, l []api.Token, at, next int, ok bool) *api.Node {
	t.Helper()
	x, n, e := readings()[what](l, at)
	if ok && (e != api.OK || n != next || x == nil) {
		t.Fatalf("P6.1: %s of %v at %d: %v, %d, %d; want one up to %d", what, l, at, x, n, e, next)
	}
	if !ok && (e != api.ErrSyntax || n != next || x != nil) {
		t.Fatalf("P6.1: %s of %v at %d: %v, %d, %d; want an error at %d", what, l, at, x, n, e, next)
	}
	return x
}

// search goes through all rows of up to n tokens that can go on to become what, with each token behind them.
func search(t *testing.T, what string, n int, tokens []api.Token) {
	rests := [][]api.Token{nil, {{}}, {sym(")"), named("a")}, {sym(".."), sym("["), word("IN"), num(1), sym("}")}}
	var deeper func(row []api.Token, c chart)
	deeper = func(row []api.Token, c chart) {
		ok := c.complete(what)
		x := holds(t, what, put(row...), 0, len(row), ok)
		for i, one := range tokens {
			longer := append(row[:len(row):len(row)], one)
			if next, goes := c.behind(one); goes {
				if len(row) < n {
					deeper(longer, next)
				}
				continue
			}
			y := holds(t, what, put(append(longer, rests[i%len(rests)]...)...), 0, len(row), ok)
			if tree.Text(x) != tree.Text(y) {
				t.Fatalf("P6.2: %s of %v: %s; with %v behind it: %s", what, row, tree.Text(x), one, tree.Text(y))
			}
		}
	}
	deeper(nil, opened(what))
}

// P6.1, P6.2: which rows are taken, how far, and where errors are.
func TestAllShortRows(t *testing.T) {
	for what := range readings() {
		t.Run(what, func(t *testing.T) {
			t.Parallel()
			search(t, what, 3, all())
			search(t, what, 5, few())
		})
	}
}

// P6.1: what stands ahead of the place makes no difference, nor does a longer row.
func TestPlaceInRow(t *testing.T) {
	row := []api.Token{named("a"), sym("."), named("b"), sym("["), num(1), sym("+"), sym("{"), num(2), sym(".."), num(3), sym("}"), sym("]"), sym(","), sym("("), num(4), sym(";"), sym("*")}
	for what := range readings() {
		for at := range len(row) + 1 {
			c := opened(what)
			next := at
			for next < len(row) {
				longer, goes := c.behind(row[next])
				if !goes {
					break
				}
				c, next = longer, next+1
			}
			x := holds(t, what, put(row...), at, next, c.complete(what))
			y, n, _ := readings()[what](put(row...)[at:], 0)
			if tree.Text(x) != tree.Text(y) || n != next-at {
				t.Errorf("P6.1: %s at %d: %s, %s", what, at, tree.Text(x), tree.Text(y))
			}
		}
	}
}
