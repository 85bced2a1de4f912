package unit_test

import (
	"slices"
	"strings"
	"testing"

	"separatum/api"
	"separatum/lex"
	"separatum/place"
	"separatum/tree"
	"separatum/unit"
)

// chapters is the grammar of layers 6 to 9, as the chapters have it: what Parse tells is held against the rows that it lets be. Tokens that the grammar itself is written with stand in quotes, name! is a name that a block, or a unit, ends with, and name? that name again; end is the end of a row. A definition's declarations have a rule of their own; given is what a heading has behind its name.
const chapters = `
unit    = DEFINITION MODULE name! ; { import } defs END name? . end
        | [ IMPLEMENTATION ] MODULE name! ; { import } block name? . end
import  = IMPORT names ; | FROM name IMPORT names ;
names   = name { , name }
type    = simple | ARRAY simple { , simple } OF type | RECORD fields END | SET OF simple | POINTER TO type
        | PROCEDURE [ '(' [ formal { , formal } ] ')' [ : qualident ] ]
simple  = qualident | '(' names ')' | '[' expr .. expr ']'
formal  = [ VAR ] [ ARRAY OF ] qualident
fields  = [ field ] { ; [ field ] } [ ; part [ ; ] ] | part [ ; ]
field   = names : type
part    = CASE name : qualident OF [ arm ] { '|' [ arm ] } [ ELSE plain ] END
arm     = labels : plain
plain   = [ field ] { ; [ field ] }
heading = PROCEDURE name! given
given   = [ '(' [ params { ; params } ] ')' [ : qualident ] ]
params  = [ VAR ] names : [ ARRAY OF ] qualident
decls   = { CONST { name '=' expr ; } | TYPE { name '=' type ; } | VAR { names : type ; }
        | heading ; block name? ; | MODULE name! ; { imports } [ EXPORT [ QUALIFIED ] names ; ] block name? ; }
imports = IMPORT names ;
block   = decls [ BEGIN body ] END
defs    = { CONST { name '=' expr ; } | TYPE { name [ '=' type ] ; } | VAR { names : type ; } | PROCEDURE name given ; }
body      = [ statement ] { ; [ statement ] }
statement = designator ( := expr | [ args ] )
          | IF expr THEN body { ELSIF expr THEN body } [ ELSE body ] END
          | CASE expr OF [ case ] { '|' [ case ] } [ ELSE body ] END
          | WHILE expr DO body END | REPEAT body UNTIL expr | LOOP body END | EXIT
          | FOR name := expr TO expr [ BY expr ] DO body END
          | WITH designator DO body END | RETURN [ expr ]
case      = labels : body
qualident  = name { . name }
designator = name { . name | '[' expr { , expr } ']' | ^ }
expr       = sum [ ( '=' | # | < | <= | > | >= | IN ) sum ]
sum        = [ + | - ] term { ( + | - | OR ) term }
term       = factor { ( * | / | DIV | MOD | AND ) factor }
factor     = number | character | string | set | designator [ args ] | '(' expr ')' | NOT factor
set        = [ qualident ] '{' [ element { , element } ] '}'
element    = expr [ .. expr ]
args       = '(' [ expr { , expr } ] ')'
labels     = element { , element }
`

// part is a piece of the grammar: 1 to 4 are what the kids are, 0 is a rule or a token of that text.
type part struct {
	is   int
	text string
	kids []*part
}

const (
	row   = 1 // one behind the other
	ways  = 2 // one of them
	maybe = 3 // once, or not
	again = 4 // again and again
)

// grammar is its rules, by what they make.
type grammar map[string]*part

// read is the grammar of a text.
func read(text string) grammar {
	g := grammar{}
	var l []string
	for _, s := range strings.Fields(text) {
		if s == "=" { // the name ahead of it begins a rule
			l = append(l[:len(l)-1], "", l[len(l)-1])
			continue
		}
		l = append(l, s)
	}
	for l = l[1:]; len(l) > 0; {
		name := l[0]
		g[name], l = readWays(l[1:])
		l = l[min(1, len(l)):]
	}
	return g
}

// readWays is the piece that l begins with, up to the bracket, or the rule, that ends it, and what is left of l.
func readWays(l []string) (*part, []string) {
	all := &part{is: ways, kids: []*part{{is: row}}}
	for len(l) > 0 {
		last := all.kids[len(all.kids)-1]
		s := l[0]
		switch s {
		case "", ")", "]", "}":
			return all, l
		case "|":
			all.kids, l = append(all.kids, &part{is: row}), l[1:]
		case "(", "[", "{":
			inner, left := readWays(l[1:])
			inner = &part{is: map[string]int{"(": row, "[": maybe, "{": again}[s], kids: []*part{inner}}
			last.kids, l = append(last.kids, inner), left[1:]
		default:
			last.kids, l = append(last.kids, &part{text: strings.Trim(s, "'")}), l[1:]
		}
	}
	return all, l
}

// todo is what is to come, piece by piece; nil: nothing.
type todo struct {
	what *part
	then *todo
}

// open is the names of the blocks that are not done, the innermost first.
type open struct {
	name string
	out  *open
}

// way is one in which a row can go on: what is to come, a token first.
type way struct {
	todo *todo
	open *open
}

// state is all ways in which a row can go on.
type state struct {
	g    grammar
	ways []way
}

// begin is the state ahead of a row that is to become what.
func (g grammar) begin(what string) state {
	s := state{g: g}
	s.add(&todo{what: &part{text: what}}, nil)
	return s
}

// add adds the ways in which what is to come can begin.
func (s *state) add(l *todo, o *open) {
	if l == nil {
		s.ways = append(s.ways, way{nil, o})
		return
	}
	p := l.what
	switch p.is {
	case row:
		next := l.then
		for i := len(p.kids) - 1; i >= 0; i-- {
			next = &todo{p.kids[i], next}
		}
		s.add(next, o)
	case ways:
		for _, k := range p.kids {
			s.add(&todo{k, l.then}, o)
		}
	case maybe:
		s.add(l.then, o)
		s.add(&todo{p.kids[0], l.then}, o)
	case again:
		s.add(l.then, o)
		s.add(&todo{p.kids[0], l}, o)
	default:
		if rule := s.g[p.text]; rule != nil {
			s.add(&todo{rule, l.then}, o)
			return
		}
		s.ways = append(s.ways, way{l, o})
	}
}

// behind is the state behind one token more; without ways, if the row can't go on with it.
func (s state) behind(t api.Token) state {
	r := state{g: s.g}
	for _, w := range s.ways {
		if w.todo == nil {
			continue
		}
		text, o := w.todo.what.text, w.open
		switch {
		case text == "name!" && t.Kind == api.TokName:
			o = &open{t.Text, o}
		case text == "name?" && t.Kind == api.TokName && t.Text == o.name:
			o = o.out
		case text != class(t):
			continue
		}
		r.add(w.todo.then, o)
	}
	return r
}

// goes tells whether the row can be one, or begin one.
func (s state) goes() bool { return len(s.ways) > 0 }

// done tells whether the row is one.
func (s state) done() bool {
	for _, w := range s.ways {
		if w.todo == nil {
			return true
		}
	}
	return false
}

// class is what the grammar calls a token; nothing of one that Scan does not tell.
func class(t api.Token) string {
	word := lex.Word(t.Text)
	switch {
	case t.Kind == api.TokEnd:
		return "end"
	case t.Kind == api.TokName:
		return "name"
	case t.Kind == api.TokNum:
		return "number"
	case t.Kind == api.TokChar:
		return "character"
	case t.Kind == api.TokStr:
		return "string"
	case t.Kind == api.TokSym && !word, t.Kind == api.TokWord && word:
		return t.Text
	}
	return ""
}

// reach is how far a row can go on to become a unit, as the grammar has it, and whether it is one: behind its last token stands the end.
func (g grammar) reach(l []api.Token) (at int, ok bool) {
	s := g.begin("unit")
	for at = range l {
		longer := s.behind(l[at])
		if !longer.goes() {
			return at, s.done()
		}
		s = longer
	}
	return len(l), s.whole()
}

// whole tells whether the row is a unit, with the end behind it, or as its last token.
func (s state) whole() bool { return s.done() || s.behind(api.Token{}).done() }

// holds holds what Parse answers against what must come: a unit, or an error at that place.
func holds(t *testing.T, l []api.Token, at int, ok bool) *api.Node {
	t.Helper()
	x, n, e := unit.Parse(l)
	if ok && (e != api.OK || n != 0 || x == nil) {
		t.Fatalf("P9.1: %s: %d, %d; want a unit", lex.Join(l), n, e)
	}
	if !ok && (e != api.ErrSyntax || n != at || x != nil) {
		t.Fatalf("P9.1: %s: %s, %d, %d; want an error at %d", lex.Join(l), tree.Text(x), n, e, at)
	}
	return x
}

// put is l with a place for each token, by how many are ahead of it.
func put(l []api.Token) []api.Token {
	r := slices.Clone(l)
	for i := range r {
		r[i].Pos, r[i].End = place.Of(1, i+1), place.Of(1, i+2)
	}
	return r
}

// scanned is the tokens of a text, without the end, each at a place of its own.
func scanned(text string) []api.Token {
	l, at, e := lex.Scan(text)
	if e != api.OK {
		panic(text + " is no source: " + place.Text(at))
	}
	return put(l[:len(l)-1])
}

// all is tokens of each kind, each symbol, each reserved word, and the end.
func all() []api.Token {
	return append(scanned(`a b 1 101C 's' + - * / := . , ; ( [ { ^ = # < > <= >= .. : ) ] } |
AND ARRAY BEGIN BY CASE CONST DEFINITION DIV DO ELSE ELSIF END EXIT EXPORT FOR FROM IF IMPLEMENTATION IMPORT IN LOOP MOD MODULE NOT OF OR
POINTER PROCEDURE QUALIFIED RECORD REPEAT RETURN SET THEN TO TYPE UNTIL VAR WHILE WITH`), api.Token{})
}
