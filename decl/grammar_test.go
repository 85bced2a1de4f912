package decl_test

import (
	"slices"
	"strings"
	"testing"

	"separatum/api"
	"separatum/decl"
	"separatum/lex"
	"separatum/place"
)

// chapters is the grammar of layers 6 to 8, as the chapters have it: what the calls tell is held against the rows that it lets be. Tokens that the grammar itself is written with stand in quotes, name! is a name that a block ends with, and name? that name again. The definition's declarations have a rule of their own.
const chapters = `
names   = name { , name }
type    = simple | ARRAY simple { , simple } OF type | RECORD fields END | SET OF simple | POINTER TO type
        | PROCEDURE [ '(' [ formal { , formal } ] ')' [ : qualident ] ]
simple  = qualident | '(' names ')' | '[' expr .. expr ']'
formal  = [ VAR ] [ ARRAY OF ] qualident
fields  = [ field ] { ; [ field ] } [ ; part [ ; ] ] | part [ ; ]
field   = names : type
part    = CASE name : qualident OF [ arm ] { '|' [ arm ] } [ ELSE plain ] END
arm     = labels : plain
plain   = [ field ] { ; [ field ] }
heading = PROCEDURE name! [ '(' [ params { ; params } ] ')' [ : qualident ] ]
params  = [ VAR ] names : [ ARRAY OF ] qualident
decls   = { CONST { name '=' expr ; } | TYPE { name '=' type ; } | VAR { names : type ; }
        | heading ; block name? ; | MODULE name! ; { imports } [ EXPORT [ QUALIFIED ] names ; ] block name? ; }
imports = IMPORT names ;
block   = decls [ BEGIN body ] END
defs    = { CONST { name '=' expr ; } | TYPE { name [ '=' type ] ; } | VAR { names : type ; } | heading ; }
body      = [ statement ] { ; [ statement ] }
statement = designator ( := expr | [ args ] )
          | IF expr THEN body { ELSIF expr THEN body } [ ELSE body ] END
          | CASE expr OF [ case ] { '|' [ case ] } [ ELSE body ] END
          | WHILE expr DO body END | REPEAT body UNTIL expr | LOOP body END | EXIT
          | FOR name := expr TO expr [ BY expr ] DO body END
          | WITH designator DO body END | RETURN [ expr ]
case      = labels : body
qualident  = name { . name }
designator = name { . name | '[' expr { , expr } ']' | ^ }
expr       = sum [ ( '=' | # | < | <= | > | >= | IN ) sum ]
sum        = [ + | - ] term { ( + | - | OR ) term }
term       = factor { ( * | / | DIV | MOD | AND ) factor }
factor     = number | character | string | set | designator [ args ] | '(' expr ')' | NOT factor
set        = [ qualident ] '{' [ element { , element } ] '}'
element    = expr [ .. expr ]
args       = '(' [ expr { , expr } ] ')'
labels     = element { , element }
`

// part is a piece of the grammar: 1 to 4 are what the kids are, 0 is a rule or a token of that text.
type part struct {
	is   int
	text string
	kids []*part
}

const (
	row   = 1 // one behind the other
	ways  = 2 // one of them
	maybe = 3 // once, or not
	again = 4 // again and again
)

// grammar is its rules, by what they make.
type grammar map[string]*part

// read is the grammar of a text.
func read(text string) grammar {
	g := grammar{}
	var l []string
	for _, s := range strings.Fields(text) {
		if s == "=" { // the name ahead of it begins a rule
			l = append(l[:len(l)-1], "", l[len(l)-1])
			continue
		}
		l = append(l, s)
	}
	for l = l[1:]; len(l) > 0; {
		name := l[0]
		g[name], l = readWays(l[1:])
		l = l[min(1, len(l)):]
	}
	return g
}

// readWays is the piece that l begins with, up to the bracket, or the rule, that ends it, and what is left of l.
func readWays(l []string) (*part, []string) {
	all := &part{is: ways, kids: []*part{{is: row}}}
	for len(l) > 0 {
		last := all.kids[len(all.kids)-1]
		s := l[0]
		switch s {
		case "", ")", "]", "}":
			return all, l
		case "|":
			all.kids, l = append(all.kids, &part{is: row}), l[1:]
		case "(", "[", "{":
			inner, left := readWays(l[1:])
			inner = &part{is: map[string]int{"(": row, "[": maybe, "{": again}[s], kids: []*part{inner}}
			last.kids, l = append(last.kids, inner), left[1:]
		default:
			last.kids, l = append(last.kids, &part{text: strings.Trim(s, "'")}), l[1:]
		}
	}
	return all, l
}

// todo is what is to come, piece by piece; nil: nothing.
type todo struct {
	what *part
	then *todo
}

// open is the names of the blocks that are not done, the innermost first.
type open struct {
	name string
	out  *open
}

// way is one in which a row can go on: what is to come, a token first.
type way struct {
	todo *todo
	open *open
}

// state is all ways in which a row can go on.
type state struct {
	g    grammar
	ways []way
}

// begin is the state ahead of a row that is to become what.
func (g grammar) begin(what string) state {
	s := state{g: g}
	s.add(&todo{what: &part{text: what}}, nil)
	return s
}

// add adds the ways in which what is to come can begin.
func (s *state) add(l *todo, o *open) {
	if l == nil {
		s.ways = append(s.ways, way{nil, o})
		return
	}
	p := l.what
	switch p.is {
	case row:
		next := l.then
		for i := len(p.kids) - 1; i >= 0; i-- {
			next = &todo{p.kids[i], next}
		}
		s.add(next, o)
	case ways:
		for _, k := range p.kids {
			s.add(&todo{k, l.then}, o)
		}
	case maybe:
		s.add(l.then, o)
		s.add(&todo{p.kids[0], l.then}, o)
	case again:
		s.add(l.then, o)
		s.add(&todo{p.kids[0], l}, o)
	default:
		if rule := s.g[p.text]; rule != nil {
			s.add(&todo{rule, l.then}, o)
			return
		}
		s.ways = append(s.ways, way{l, o})
	}
}

// behind is the state behind one token more; without ways, if the row can't go on with it.
func (s state) behind(t api.Token) state {
	r := state{g: s.g}
	for _, w := range s.ways {
		if w.todo == nil {
			continue
		}
		text, o := w.todo.what.text, w.open
		switch {
		case text == "name!" && t.Kind == api.TokName:
			o = &open{t.Text, o}
		case text == "name?" && t.Kind == api.TokName && t.Text == o.name:
			o = o.out
		case text != class(t):
			continue
		}
		r.add(w.todo.then, o)
	}
	return r
}

// goes tells whether the row can be one, or begin one.
func (s state) goes() bool { return len(s.ways) > 0 }

// done tells whether the row is one.
func (s state) done() bool {
	for _, w := range s.ways {
		if w.todo == nil {
			return true
		}
	}
	return false
}

// class is what the grammar calls a token.
func class(t api.Token) string {
	switch t.Kind {
	case api.TokName:
		return "name"
	case api.TokNum:
		return "number"
	case api.TokChar:
		return "character"
	case api.TokStr:
		return "string"
	case api.TokSym, api.TokWord:
		return t.Text
	}
	return "end"
}

// reach is how far what stands at a place of a row reaches, as the grammar has it, and whether it is one.
func (g grammar) reach(what string, l []api.Token, at int) (next int, ok bool) {
	s := g.begin(what)
	for next = at; next < len(l); next++ {
		longer := s.behind(l[next])
		if !longer.goes() {
			break
		}
		s = longer
	}
	return next, s.done()
}

// call is one of the package's: what it tells is a list, of one tree but for those of Decls.
type call func(l []api.Token, at int) ([]*api.Node, int, api.Errno)

// calls is the package's, by what they tell.
func calls() map[string]call {
	one := func(f func(l []api.Token, at int) (*api.Node, int, api.Errno)) call {
		return func(l []api.Token, at int) ([]*api.Node, int, api.Errno) {
			x, next, e := f(l, at)
			if x == nil {
				return nil, next, e
			}
			return []*api.Node{x}, next, e
		}
	}
	many := func(def bool) call {
		return func(l []api.Token, at int) ([]*api.Node, int, api.Errno) { return decl.Decls(l, at, def) }
	}
	return map[string]call{"type": one(decl.Type), "heading": one(decl.Heading), "block": one(decl.Block), "decls": many(false), "defs": many(true)}
}

// holds holds what a call answers at a place of a row against what must come: trees, with all tokens up to next, or an error there.
func holds(t *testing.T, what string, l []api.Token, at, next int, ok bool) []*api.Node {
	t.Helper()
	kids, n, e := calls()[what](l, at)
	one := what != "decls" && what != "defs"
	if ok && (e != api.OK || n != next || one && len(kids) != 1) {
		t.Fatalf("P8.1: %s of %s at %d: %d, %d, %d; want one up to %d", what, lex.Join(l), at, len(kids), n, e, next)
	}
	if !ok && (e != api.ErrSyntax || n != next || len(kids) != 0) {
		t.Fatalf("P8.1: %s of %s at %d: %d, %d, %d; want an error at %d", what, lex.Join(l), at, len(kids), n, e, next)
	}
	return kids
}

// put is l with a place for each token, by how many are ahead of it.
func put(l []api.Token) []api.Token {
	r := slices.Clone(l)
	for i := range r {
		r[i].Pos, r[i].End = place.Of(1, i+1), place.Of(1, i+2)
	}
	return r
}

// scanned is the tokens of a text, without the end, each at a place of its own.
func scanned(text string) []api.Token {
	l, at, e := lex.Scan(text)
	if e != api.OK {
		panic(text + " is no source: " + place.Text(at))
	}
	return put(l[:len(l)-1])
}

// all is tokens of each kind, each symbol, each reserved word, and the end.
func all() []api.Token {
	return append(scanned(`a b 1 101C 's' + - * / := . , ; ( [ { ^ = # < > <= >= .. : ) ] } |
AND ARRAY BEGIN BY CASE CONST DEFINITION DIV DO ELSE ELSIF END EXIT EXPORT FOR FROM IF IMPLEMENTATION IMPORT IN LOOP MOD MODULE NOT OF OR
POINTER PROCEDURE QUALIFIED RECORD REPEAT RETURN SET THEN TO TYPE UNTIL VAR WHILE WITH`), api.Token{})
}
