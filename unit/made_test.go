package unit_test

import (
	"math/rand"
	"slices"
	"strings"
	"testing"

	"separatum/api"
	"separatum/decl"
	"separatum/lex"
	"separatum/place"
	"separatum/tree"
	"separatum/unit"
)

// maker makes rows, and their trees beside them, by the chapter's grammar.
type maker struct {
	chance  *rand.Rand
	row     []api.Token
	imports []string // the modules that were named, each once
}

func newMaker(seed int64) *maker {
	return &maker{chance: rand.New(rand.NewSource(seed))}
}

// put puts the tokens of a text at the end of the row, and answers the place of the first one.
func (m *maker) put(text string) complex128 {
	at := m.here()
	for _, t := range scanned(text) {
		t.Pos = m.here()
		t.End = t.Pos + 1i
		m.row = append(m.row, t)
	}
	return at
}

func (m *maker) here() complex128 { return place.Of(7, len(m.row)+1) }

func node(kind uint8, at complex128, name string, kids ...*api.Node) *api.Node {
	return &api.Node{Kind: kind, Pos: at, Name: name, Kids: kids}
}

func (m *maker) name() string {
	return []string{"a", "b", "xyz", "End", "c1"}[m.chance.Intn(5)]
}

// names puts names, with commas between.
func (m *maker) names() []*api.Node {
	var l []*api.Node
	for len(l) == 0 || m.chance.Intn(3) > 0 {
		if len(l) > 0 {
			m.put(",")
		}
		s := m.name()
		l = append(l, node(api.NodeName, m.put(s), s))
	}
	return l
}

// imported takes note of a module that was named.
func (m *maker) imported(s string) {
	if !slices.Contains(m.imports, s) {
		m.imports = append(m.imports, s)
	}
}

func (m *maker) oneImport() *api.Node {
	if m.chance.Intn(2) == 0 {
		x := node(api.NodeFrom, m.put("FROM"), m.name())
		m.put(x.Name + " IMPORT")
		x.Kids = m.names()
		m.put(";")
		m.imported(x.Name)
		return x
	}
	x := node(api.NodeImport, m.put("IMPORT"), "")
	x.Kids = m.names()
	m.put(";")
	for _, k := range x.Kids {
		m.imported(k.Name)
	}
	return x
}

// decls puts declarations of a definition, or none; their trees are what the layer below has.
func (m *maker) decls() []*api.Node {
	at := len(m.row)
	for m.chance.Intn(3) > 0 {
		m.put([]string{"CONST", "CONST a = 1;", "TYPE t;", "TYPE t; u = RECORD b: c END;", "VAR a, b: POINTER TO t;", "PROCEDURE p;", "PROCEDURE p(VAR a: b): c;", "VAR"}[m.chance.Intn(8)])
	}
	l, next, e := decl.Decls(append(slices.Clip(m.row), scanned("END")...), at, true)
	if e != api.OK || next != len(m.row) {
		panic("no declarations")
	}
	return l
}

// block puts a block; its tree is what the layer below has.
func (m *maker) block() *api.Node {
	at := len(m.row)
	for m.chance.Intn(3) > 0 {
		m.put([]string{"CONST", "CONST a = 1;", "TYPE t = (p, q);", "VAR a, b: POINTER TO t;", "PROCEDURE p; END p;", "PROCEDURE p(VAR a: b): c; VAR d: e; BEGIN RETURN d END p;", "MODULE m; END m;", "MODULE m; IMPORT a, k; EXPORT b; MODULE n; IMPORT k; END n; END m;"}[m.chance.Intn(8)])
	}
	m.put([]string{"END", "BEGIN END", "BEGIN a := 1 END", "BEGIN p; IF a THEN RETURN END; END"}[m.chance.Intn(4)])
	x, next, e := decl.Block(m.row, at)
	if e != api.OK || next != len(m.row) {
		panic("no block")
	}
	return x
}

// unit puts a unit, without the end behind it.
func (m *maker) unit() *api.Node {
	begins := []string{"DEFINITION MODULE", "IMPLEMENTATION MODULE", "MODULE"}
	kinds := []uint8{api.NodeDef, api.NodeImpl, api.NodeProg}
	i := m.chance.Intn(3)
	x := node(kinds[i], m.put(begins[i]), m.name())
	m.put(x.Name + ";")
	for m.chance.Intn(3) > 0 {
		x.Kids = append(x.Kids, m.oneImport())
	}
	if i == 0 {
		x.Kids = append(x.Kids, m.decls()...)
		m.put("END")
	} else {
		x.Kids = append(x.Kids, m.block())
	}
	m.put(x.Name + ".")
	return x
}

// P9.1: each row that was made is the unit that was made beside it, with its places, and imports what was noted.
func TestMade(t *testing.T) {
	for seed := range int64(5000) {
		m := newMaker(seed)
		want := tree.Text(m.unit())
		for _, rest := range [][]api.Token{nil, {{}}} {
			x := holds(t, slices.Concat(m.row, rest), 0, true)
			if got := tree.Text(x); got != want {
				t.Fatalf("P9.1: %s: %s; want %s", lex.Join(m.row), got, want)
			}
			if got := unit.Imports(x); !slices.Equal(got, m.imports) {
				t.Fatalf("P9.1: %s imports %v; want %v", lex.Join(m.row), got, m.imports)
			}
		}
	}
}

// P9.2: a unit that is cut behind any of its tokens, but the last, is an error at its end.
func TestCut(t *testing.T) {
	for seed := range int64(600) {
		m := newMaker(seed)
		m.unit()
		for cut := range m.row {
			l := m.row[:cut:cut]
			holds(t, l, cut, false)
			holds(t, append(l, api.Token{}), cut, false)
			holds(t, append(l, api.Token{}, m.row[cut]), cut, false)
			s := lex.Join(l)
			if x, at, e := unit.Read(s); x != nil || at != place.Of(1, len(s)+1) || e != api.ErrSyntax {
				t.Fatalf("P9.2: %s: %s, %d", s, place.Text(at), e)
			}
		}
	}
}

// P9.1: behind the dot stands the end.
func TestBehindTheDot(t *testing.T) {
	for seed := range int64(60) {
		m := newMaker(seed)
		m.unit()
		for _, one := range all() {
			if one.Kind == api.TokEnd {
				holds(t, append(slices.Clip(m.row), one), 0, true)
				continue
			}
			holds(t, append(slices.Clip(m.row), one), len(m.row), false)
			holds(t, append(slices.Clip(m.row), one, api.Token{}), len(m.row), false)
			holds(t, slices.Concat(m.row, []api.Token{one}, m.row), len(m.row), false)
		}
	}
}

// blanks is what may stand between tokens.
func blanks() []string {
	return []string{" ", "\n", "\t", "\r", "(**)", "(* a *)", "(* MODULE (* b *) \n END *)", " \n ", "(*'*)\n\n(*\"*)"}
}

// spaced is a row as a source, with blanks between the tokens, ahead of them and behind them; and the place of each token, and of the end.
func spaced(chance *rand.Rand, l []api.Token) (s string, at []complex128) {
	var b strings.Builder
	blank := func() {
		for ok := true; ok; ok = chance.Intn(3) == 0 {
			b.WriteString(blanks()[chance.Intn(len(blanks()))])
		}
	}
	for i := range l {
		blank()
		at = append(at, ended(b.String()))
		b.WriteString(lex.Join(l[i : i+1]))
	}
	blank()
	return b.String(), append(at, ended(b.String()))
}

// ended is where a text ends, by its lines.
func ended(s string) complex128 {
	return place.Of(1+strings.Count(s, "\n"), len(s)-strings.LastIndex(s, "\n"))
}

// moved gives each node of x the place of the token at which it stands.
func moved(x *api.Node, at []complex128) {
	if x.Kind != api.NodeNone {
		x.Pos = at[place.Column(x.Pos)-1]
	}
	for _, k := range x.Kids {
		moved(k, at)
	}
}

// P9.1, P9.2: blanks and comments make no difference but to places, and these are those of the tokens in the source.
func TestBlanks(t *testing.T) {
	for seed := range int64(1000) {
		m := newMaker(seed)
		want := m.unit()
		s, at := spaced(m.chance, m.row)
		moved(want, at)
		x, end, e := unit.Read(s)
		if e != api.OK || end != 0 || tree.Text(x) != tree.Text(want) {
			t.Fatalf("P9.2: %q: %s, %d", s, place.Text(end), e)
		}
		if y, _, _ := unit.Read(lex.Join(m.row)); !tree.Same(x, y) || !slices.Equal(unit.Imports(x), unit.Imports(y)) {
			t.Fatalf("P9.2: %q: blanks make a difference", s)
		}
	}
}

// P9.1: an error of the grammar is told at its token's place in the source, whatever blanks stand there.
func TestBlanksAndErrors(t *testing.T) {
	g, with := read(chapters), all()
	with = with[:len(with)-1]
	for seed := range 300 {
		m := newMaker(int64(seed))
		m.unit()
		for i := range m.row {
			spoiled := slices.Clone(m.row)
			spoiled[i] = with[(seed*7+i*13)%len(with)]
			n, ok := g.reach(spoiled)
			s, at := spaced(m.chance, spoiled)
			x, p, e := unit.Read(s)
			if ok != (e == api.OK) || ok != (x != nil) || !ok && (e != api.ErrSyntax || p != at[n]) || ok && p != 0 {
				t.Fatalf("P9.1: %q: %s, %d; want %s", s, place.Text(p), e, place.Text(at[n]))
			}
		}
	}
}

// P9.1: an error of lex goes ahead of those of the grammar, wherever these stand.
func TestLexAhead(t *testing.T) {
	g, with := read(chapters), all()
	with = with[:len(with)-1]
	wrong := map[string]api.Errno{"9B": api.ErrNumber, "65536": api.ErrNumber, "%": api.ErrChar, "'ab\n": api.ErrString, "(* a": api.ErrComment, strings.Repeat("x", api.MaxName+1): api.ErrLong}
	for seed := range 60 {
		m := newMaker(int64(seed))
		m.unit()
		spoiled := slices.Clone(m.row)
		i := m.chance.Intn(len(spoiled))
		if seed%2 == 0 {
			spoiled[i] = with[(seed*7+i*13)%len(with)]
		}
		_, whole := g.reach(spoiled)
		for bad, want := range wrong {
			ahead, behind := lex.Join(spoiled[:i])+" ", " "+lex.Join(spoiled[i:])
			x, at, e := unit.Read(ahead + bad + behind)
			if x != nil || e != want || at != ended(ahead) {
				t.Fatalf("P9.1: %q: %s, %d; want %d (%t)", ahead+bad+behind, place.Text(at), e, want, whole)
			}
		}
	}
}
