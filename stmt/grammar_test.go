package stmt

import (
	"math/rand"
	"slices"
	"strings"
	"testing"

	"separatum/api"
	"separatum/lex"
	"separatum/place"
	"separatum/tree"
)

// chapters is the grammar of layers 6 and 7, once more, as rules without repetitions: what Body tells is held against the rows that these rules let be. What has ? behind it may be left out; a body without anything is never one of the rules'.
const chapters = `
body = open | statement | open statement
open = ; | body ;
statement = assignment | call | if | case | while | repeat | loop | EXIT | for | with | return
assignment = designator := expr
call = designator | designator args
if = IF expr THEN body? others
others = END | ELSE body? END | ELSIF expr THEN body? others
case = CASE expr OF arms? rest
arms = bars | arm | bars arm
bars = bar | arms bar
arm = labels : body?
rest = END | ELSE body? END
while = WHILE expr do
repeat = REPEAT body? UNTIL expr
loop = LOOP body? END
for = FOR name := expr TO expr by? do
by = BY expr
with = WITH designator do
do = DO body? END
return = RETURN expr?
qualident = name | qualident . name
designator = name | designator . name | designator [ exprs ] | designator ^
exprs = expr | exprs , expr
expr = simple | simple relation simple
relation = '=' | # | < | <= | > | >= | IN
simple = term | sign term | simple sum term
sign = + | -
sum = + | - | OR
term = factor | term product factor
product = * | / | DIV | MOD | AND
factor = number | character | string | set | designator | designator args | ( expr ) | NOT factor
set = qualident? braces
braces = { labels? }
labels = element | labels , element
element = expr | expr .. expr
args = ( exprs? )
`

// grammar is the ways to make each thing.
type grammar map[string][][]string

// rules is the grammar of a text.
func rules(text string) grammar {
	all := grammar{}
	for _, line := range strings.Split(strings.TrimSpace(text), "\n") {
		what, ways, _ := strings.Cut(line, " = ")
		for _, way := range strings.Split(ways, " | ") {
			all[what] = append(all[what], leftOut(strings.Fields(strings.ReplaceAll(way, "'", "")))...)
		}
	}
	return all
}

// leftOut is a way with and without what may be left out of it.
func leftOut(way []string) [][]string {
	for i, x := range way {
		if one, ok := strings.CutSuffix(x, "?"); ok {
			with := slices.Concat(way[:i], []string{one}, way[i+1:])
			return append(leftOut(with), leftOut(slices.Delete(slices.Clone(way), i, i+1))...)
		}
	}
	return [][]string{way}
}

// class is what the rules call a token.
func class(t api.Token) string {
	switch {
	case t.Kind == api.TokName:
		return "name"
	case t.Kind == api.TokNum:
		return "number"
	case t.Kind == api.TokChar:
		return "character"
	case t.Kind == api.TokStr:
		return "string"
	case t.Kind == api.TokSym && t.Text == "|":
		return "bar"
	case t.Kind == api.TokSym && !lex.Word(t.Text), t.Kind == api.TokWord && lex.Word(t.Text):
		return t.Text
	case t.Kind == api.TokEnd:
		return "end"
	}
	return "other"
}

// item is a way to make what that was gone through up to a dot, from a token on.
type item struct {
	what string
	way  int
	dot  int
	from int
}

// spot is a place of a row that can go on: by what each item that leads there wants next, and whether a body may end there.
type spot struct {
	wants map[string][]item
	ends  bool
}

// chart is the spots of a row, the first one ahead of it.
type chart struct {
	of    grammar
	spots []spot
	row   []api.Token
}

// opened is the chart of an empty row.
func opened(g grammar) chart {
	c := chart{of: g}
	s := c.closure(c.foretold("body"))
	s.ends = true
	c.spots = []spot{s}
	return c
}

// foretold is the items of what that begin here.
func (c chart) foretold(what string) []item {
	var l []item
	for way := range c.of[what] {
		l = append(l, item{what, way, 0, len(c.spots)})
	}
	return l
}

// closure is all items that follow from those of l, at the place behind the chart.
func (c chart) closure(l []item) spot {
	s := spot{wants: map[string][]item{}}
	seen := map[item]bool{}
	for len(l) > 0 {
		i := l[len(l)-1]
		l = l[:len(l)-1]
		if seen[i] {
			continue
		}
		seen[i] = true
		way := c.of[i.what][i.way]
		if i.dot == len(way) {
			s.ends = s.ends || i.what == "body" && i.from == 0
			l = append(l, moved(c.spots[i.from].wants[i.what])...)
			continue
		}
		w := way[i.dot]
		if s.wants[w] == nil {
			l = append(l, c.foretold(w)...)
		}
		s.wants[w] = append(s.wants[w], i)
	}
	return s
}

// moved is l with each dot one further.
func moved(l []item) []item {
	r := slices.Clone(l)
	for i := range r {
		r[i].dot++
	}
	return r
}

// goes tells whether the row can go on with that token.
func (c chart) goes(t api.Token) bool {
	return len(c.spots[len(c.spots)-1].wants[class(t)]) > 0
}

// behind is the chart of the row with one token more, with which it can go on.
func (c chart) behind(t api.Token) chart {
	s := c.closure(moved(c.spots[len(c.spots)-1].wants[class(t)]))
	c.spots = append(slices.Clip(c.spots), s)
	c.row = append(slices.Clip(c.row), t)
	return c
}

// through is the chart of as much of l as can go on.
func (c chart) through(l []api.Token) chart {
	for len(l) > 0 && c.goes(l[0]) {
		c, l = c.behind(l[0]), l[1:]
	}
	return c
}

// complete tells whether the row is a body, with a token of that class behind it: a RETURN without an expression stands ahead of a few alone.
func (c chart) complete(next string) bool {
	n := len(c.row)
	if n > 0 && class(c.row[n-1]) == "RETURN" && !slices.Contains([]string{";", "END", "ELSE", "ELSIF", "UNTIL", "bar", "end"}, next) {
		return false
	}
	return c.spots[n].ends
}

func named(s string) api.Token { return api.Token{Kind: api.TokName, Text: s} }
func num(n int64) api.Token    { return api.Token{Kind: api.TokNum, N: n} }
func str(s string) api.Token   { return api.Token{Kind: api.TokStr, Text: s} }
func symbol(s string) api.Token {
	return api.Token{Kind: api.TokSym, Text: s}
}
func reserved(s string) api.Token {
	return api.Token{Kind: api.TokWord, Text: s}
}

// tokens is tokens of these classes.
func tokens(classes string) []api.Token {
	var l []api.Token
	for _, s := range strings.Fields(classes) {
		switch {
		case s == "name":
			l = append(l, named("a"))
		case s == "number":
			l = append(l, num(1))
		case s == "character":
			l = append(l, api.Token{Kind: api.TokChar, N: 65})
		case s == "string":
			l = append(l, str("s"))
		case s == "bar":
			l = append(l, symbol("|"))
		case s == "end":
			l = append(l, api.Token{})
		case s[0] >= 'A' && s[0] <= 'Z':
			l = append(l, reserved(s))
		default:
			l = append(l, symbol(s))
		}
	}
	return l
}

// all is tokens of each kind, each symbol, and each reserved word.
func all() []api.Token {
	return tokens(`name number character string end + - * / := . , ; ( [ { ^ = # < > <= >= .. : ) ] } bar
AND ARRAY BEGIN BY CASE CONST DEFINITION DIV DO ELSE ELSIF END EXIT EXPORT FOR FROM IF IMPLEMENTATION IMPORT IN LOOP MOD MODULE NOT OF OR
POINTER PROCEDURE QUALIFIED RECORD REPEAT RETURN SET THEN TO TYPE UNTIL VAR WHILE WITH`)
}

// put is l with a place for each token, by how many are ahead of it.
func put(l ...api.Token) []api.Token {
	r := slices.Clone(l)
	for i := range r {
		r[i].Pos, r[i].End = place.Of(1, i+1), place.Of(1, i+2)
	}
	return r
}

// holds holds what Body answers against what must come: a tree, with all tokens up to next, or an error there.
func holds(t *testing.T, l []api.Token, at, next int, ok bool) *api.Node {
	t.Helper()
	x, n, e := Body(l, at)
	if ok && (e != api.OK || n != next || x == nil) {
		t.Fatalf("P7.1: %v at %d: %v, %d, %d; want a body up to %d", classes(l), at, x, n, e, next)
	}
	if !ok && (e != api.ErrSyntax || n != next || x != nil) {
		t.Fatalf("P7.1: %v at %d: %v, %d, %d; want an error at %d", classes(l), at, x, n, e, next)
	}
	return x
}

func classes(l []api.Token) string {
	var r []string
	for _, t := range l {
		r = append(r, class(t))
	}
	return strings.Join(r, " ")
}

// rests is what may stand behind a token that can't: nothing of it may make a difference.
func rests() [][]api.Token {
	return [][]api.Token{nil, tokens("end"), tokens("; name"), tokens(":= number END"), tokens("name ; DO UNTIL"), tokens("( THEN ELSE ) bar")}
}

// around holds the row of c, and that row with each token behind it with which it can't go on; and answers those with which it can.
func around(t *testing.T, c chart, with []api.Token) []api.Token {
	t.Helper()
	var more []api.Token
	n := len(c.row)
	plain := holds(t, put(c.row...), 0, n, c.complete("end"))
	for i, one := range with {
		if c.goes(one) {
			more = append(more, one)
			continue
		}
		l := put(slices.Concat(c.row, []api.Token{one}, rests()[i%len(rests())])...)
		x := holds(t, l, 0, n, c.complete(class(one)))
		if n > 0 && x != nil && tree.Text(x) != tree.Text(plain) {
			t.Fatalf("P7.2: %s: %s; with %s behind it: %s", classes(c.row), tree.Text(plain), class(one), tree.Text(x))
		}
	}
	return more
}

// search goes through all rows of up to n tokens that can go on, with each token behind them.
func search(t *testing.T, c chart, n int, with []api.Token) {
	t.Helper()
	for _, one := range around(t, c, with) {
		if len(c.row) < n {
			search(t, c.behind(one), n, with)
		}
	}
}

// P7.1, P7.2: which rows are taken, how far, and where errors are.
func TestAllShortRows(t *testing.T) {
	for _, x := range []struct {
		n    int
		with []api.Token
	}{
		{3, all()},
		{5, tokens("name ; := ( ) , RETURN END")},
		{7, tokens("name ; IF THEN ELSE ELSIF END")},
		{8, tokens("number CASE OF : bar ELSE END")},
		{8, tokens("name WHILE DO END REPEAT UNTIL LOOP EXIT")},
		{11, tokens("name := FOR TO BY DO END")},
		{6, tokens("name . ^ WITH DO END ;")},
		{6, tokens("number RETURN ; bar UNTIL ELSE ELSIF END DO")},
	} {
		t.Run(classes(x.with), func(t *testing.T) {
			t.Parallel()
			search(t, opened(rules(chapters)), x.n, x.with)
		})
	}
}

// P7.1, P7.2: rows that come to be by chance, with some token behind each beginning of them.
func TestWalks(t *testing.T) {
	for part := range 8 {
		t.Run("", func(t *testing.T) {
			t.Parallel()
			begin := opened(rules(chapters))
			for seed := range 30 {
				chance := rand.New(rand.NewSource(int64(part*1000 + seed)))
				c := begin
				for n := range 50 {
					var more, some []api.Token
					for i, one := range all() {
						if c.goes(one) {
							more = append(more, one)
						} else if (i+n+seed)%6 == 0 {
							some = append(some, one)
						}
					}
					around(t, c, some)
					c = c.behind(drawn(chance, more))
				}
			}
		})
	}
}

// drawn is one of l: more often one that belongs to statements, or ends an expression, so that rows get beyond their first expression.
func drawn(chance *rand.Rand, l []api.Token) api.Token {
	telling := slices.DeleteFunc(slices.Clone(l), func(t api.Token) bool {
		return !slices.Contains(strings.Fields("; := : bar , ) ] } THEN ELSE ELSIF END OF DO UNTIL TO BY IF CASE WHILE REPEAT LOOP FOR WITH RETURN"), class(t))
	})
	if len(telling) > 0 && chance.Intn(4) > 0 {
		l = telling
	}
	return l[chance.Intn(len(l))]
}

// P7.1: what stands ahead of the place makes no difference, nor does a longer row.
func TestPlaceInRow(t *testing.T) {
	row := put(tokens(`IF name THEN FOR name := number TO ( name ) BY number DO name . name := number ; END ; ; CASE name OF number , number : name ( ) bar bar
ELSE LOOP EXIT END ; REPEAT ; UNTIL name END ELSIF NOT name THEN RETURN ELSE WITH name ^ DO RETURN name END END name name := := WHILE name DO END ) end`)...)
	for at := range len(row) + 1 {
		c := opened(rules(chapters)).through(row[at:])
		next, behind := at+len(c.row), "end"
		if next < len(row) {
			behind = class(row[next])
		}
		x := holds(t, row, at, next, c.complete(behind))
		y := holds(t, row[at:], 0, next-at, c.complete(behind))
		if tree.Text(x) != tree.Text(y) {
			t.Errorf("P7.1: at %d: %s, %s", at, tree.Text(x), tree.Text(y))
		}
	}
}
