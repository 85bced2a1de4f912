package decl_test

import (
	"math/rand"
	"slices"
	"testing"

	"separatum/api"
	"separatum/expr"
	"separatum/lex"
	"separatum/place"
	"separatum/stmt"
)

// maker makes rows, and their trees beside them, by the chapter's grammar.
type maker struct {
	chance *rand.Rand
	row    []api.Token
	left   int // how many types and declarations may still come to be
}

func newMaker(seed int64, most int) *maker {
	m := &maker{chance: rand.New(rand.NewSource(seed))}
	m.left = 1 + m.chance.Intn(most)
	return m
}

// makes makes what a call tells.
func (m *maker) makes(what string) []*api.Node {
	switch what {
	case "type":
		return []*api.Node{m.typ()}
	case "heading":
		return []*api.Node{m.heading()}
	case "block":
		return []*api.Node{m.block()}
	}
	return m.decls(what == "defs")
}

// put puts the tokens of a text at the end of the row, and answers the place of the first one.
func (m *maker) put(text string) complex128 {
	at := m.here()
	for _, t := range scanned(text) {
		t.Pos = m.here()
		t.End = t.Pos + 1i
		m.row = append(m.row, t)
	}
	return at
}

func (m *maker) here() complex128 { return place.Of(7, len(m.row)+1) }

func node(kind uint8, at complex128, name string, kids ...*api.Node) *api.Node {
	return &api.Node{Kind: kind, Pos: at, Name: name, Kids: kids}
}

// some tells whether one more is to come.
func (m *maker) some() bool { return m.chance.Intn(2) == 0 }

// again tells the same, as long as there is room for more.
func (m *maker) again() bool { return m.left > 0 && m.chance.Intn(3) > 0 }

// below puts one of the texts, and answers its tree, as a layer below has it.
func (m *maker) below(what func(l []api.Token, at int) (*api.Node, int, api.Errno), l ...string) *api.Node {
	at := len(m.row)
	m.put(l[m.chance.Intn(len(l))])
	x, next, e := what(append(slices.Clip(m.row), scanned("END")...), at)
	if e != api.OK || next != len(m.row) {
		panic("a text of another kind")
	}
	return x
}

func (m *maker) expr() *api.Node {
	return m.below(expr.Expr, "a", "1", "'OF'", "101C", "a + b * c", "(a = b) OR NOT c", "f(g(1), -x)", "{}", "m.s{1..2}", "p^.x[i, 2]", "a IN b", "';'", "-a")
}

func (m *maker) labels() *api.Node {
	return m.below(expr.Labels, "1", "1, 2..3", "'a'..'z', 0C", "-c", "a, b", "m.red, m.blue", "(1)..(2)")
}

func (m *maker) body() *api.Node {
	if len(m.row)%3 == 0 {
		return m.below(stmt.Body, ";", "a", "EXIT; RETURN", "CASE a OF 1: b END;")
	}
	return m.below(stmt.Body, "a := 1", "IF a THEN b END; c(d)", "RETURN a", "LOOP END", "; ; a", "RETURN")
}

func (m *maker) name() string {
	return []string{"a", "b", "xyz", "End", "c1"}[m.chance.Intn(5)]
}

func (m *maker) names() []*api.Node {
	var l []*api.Node
	for len(l) == 0 || m.chance.Intn(3) == 0 {
		if len(l) > 0 {
			m.put(",")
		}
		s := m.name()
		l = append(l, node(api.NodeName, m.put(s), s))
	}
	return l
}

func (m *maker) tname() *api.Node {
	at := m.here()
	return node(api.NodeTName, at, "", m.below(expr.Qualident, "a", "b", "INTEGER", "m.t", "a.b.c"))
}

func (m *maker) typ() *api.Node {
	m.left--
	if m.left <= 0 {
		return m.simple()
	}
	l := []func() *api.Node{m.simple, m.array, m.record, m.set, m.pointer, m.procType}
	return l[m.chance.Intn(len(l))]()
}

func (m *maker) simple() *api.Node {
	switch m.chance.Intn(3) {
	case 0:
		at := m.put("(")
		l := m.names()
		m.put(")")
		return node(api.NodeTEnum, at, "", l...)
	case 1:
		at := m.put("[")
		low := m.expr()
		m.put("..")
		high := m.expr()
		m.put("]")
		return node(api.NodeTSub, at, "", low, high)
	}
	return m.tname()
}

func (m *maker) array() *api.Node {
	at := m.put("ARRAY")
	return m.indexed(at)
}

// indexed is an array, from an index on.
func (m *maker) indexed(at complex128) *api.Node {
	index := m.simple()
	if m.chance.Intn(3) == 0 {
		return node(api.NodeTArray, at, "", index, m.indexed(m.put(",")))
	}
	m.put("OF")
	return node(api.NodeTArray, at, "", index, m.typ())
}

func (m *maker) set() *api.Node {
	at := m.put("SET OF")
	return node(api.NodeTSet, at, "", m.simple())
}

func (m *maker) pointer() *api.Node {
	at := m.put("POINTER TO")
	return node(api.NodeTPtr, at, "", m.typ())
}

func (m *maker) record() *api.Node {
	x := node(api.NodeTRec, m.put("RECORD"), "")
	x.Kids = m.plain()
	if m.some() {
		if len(x.Kids) > 0 {
			m.put(";")
		}
		x.Kids = append(x.Kids, m.part())
		if m.some() {
			m.put(";")
		}
	}
	m.put("END")
	return x
}

// plain is fields, with semicolons between, and some that stand where no field does.
func (m *maker) plain() []*api.Node {
	var l []*api.Node
	for m.chance.Intn(4) == 0 {
		m.put(";")
	}
	for m.again() {
		if len(l) > 0 {
			m.put(";")
		}
		for m.chance.Intn(4) == 0 {
			m.put(";")
		}
		m.left--
		l = append(l, m.ofType(api.NodeField))
	}
	if m.chance.Intn(4) == 0 {
		m.put(";")
	}
	return l
}

// ofType is names, and the type behind them.
func (m *maker) ofType(kind uint8) *api.Node {
	x := node(kind, m.here(), "")
	x.Kids = m.names()
	m.put(":")
	x.Kids = append(x.Kids, m.typ())
	return x
}

func (m *maker) part() *api.Node {
	x := node(api.NodePart, m.put("CASE"), m.name())
	m.put(x.Name)
	m.put(":")
	x.Kids = []*api.Node{m.tname()}
	m.put("OF")
	for n := m.chance.Intn(4); n > 0; n-- {
		if m.chance.Intn(3) > 0 {
			arm := node(api.NodeArm, m.here(), "", m.labels())
			m.put(":")
			arm.Kids = append(arm.Kids, m.plain()...)
			x.Kids = append(x.Kids, arm)
		}
		if n > 1 {
			m.put("|")
		}
	}
	if m.some() {
		last := node(api.NodeElse, m.put("ELSE"), "")
		last.Kids = m.plain()
		x.Kids = append(x.Kids, last)
	}
	m.put("END")
	return x
}

func (m *maker) procType() *api.Node {
	x := node(api.NodeTProc, m.put("PROCEDURE"), "")
	m.signature(x, ",", func(*api.Node) {})
	return x
}

func (m *maker) heading() *api.Node {
	s := m.name()
	at := m.put("PROCEDURE")
	m.put(s)
	x := node(api.NodeTProc, at, "")
	m.signature(x, ";", func(p *api.Node) {
		p.Kids = m.names()
		m.put(":")
	})
	return node(api.NodeProc, at, s, x)
}

// signature puts parameters and what is answered, and hangs them to x; named puts a parameter's names.
func (m *maker) signature(x *api.Node, by string, named func(*api.Node)) {
	answer := node(api.NodeNone, 0, "")
	if m.some() {
		m.put("(")
		for n := m.chance.Intn(4); n > 0; n-- {
			p := node(api.NodeParam, m.here(), "")
			if m.some() {
				m.put("VAR")
				p.N = 1
			}
			named(p)
			p.Kids = append(p.Kids, m.paramType())
			x.Kids = append(x.Kids, p)
			if n > 1 {
				m.put(by)
			}
		}
		m.put(")")
		if m.some() {
			m.put(":")
			answer = m.tname()
		}
	}
	x.Kids = append(x.Kids, answer)
}

func (m *maker) paramType() *api.Node {
	if m.some() {
		return m.tname()
	}
	at := m.put("ARRAY OF")
	return node(api.NodeTOpen, at, "", m.tname())
}

func (m *maker) decls(def bool) []*api.Node {
	var l []*api.Node
	for m.again() {
		m.left--
		switch n := m.chance.Intn(10); {
		case n < 2:
			m.put("CONST")
			l = m.each(l, m.constant)
		case n < 4:
			m.put("TYPE")
			l = m.each(l, func() *api.Node { return m.typeDecl(def) })
		case n < 6:
			m.put("VAR")
			l = m.each(l, func() *api.Node { return m.ofType(api.NodeVar) })
		case n < 9:
			l = append(l, m.proc(def))
		case !def:
			l = append(l, m.module())
		}
	}
	return l
}

// each is l with more declarations of a section, each of which ends with a semicolon.
func (m *maker) each(l []*api.Node, one func() *api.Node) []*api.Node {
	for m.again() {
		m.left--
		l = append(l, one())
		m.put(";")
	}
	return l
}

func (m *maker) constant() *api.Node {
	x := node(api.NodeConst, m.here(), m.name())
	m.put(x.Name + " =")
	x.Kids = []*api.Node{m.expr()}
	return x
}

func (m *maker) typeDecl(def bool) *api.Node {
	x := node(api.NodeType, m.here(), m.name())
	m.put(x.Name)
	if def && m.some() {
		x.Kids = []*api.Node{node(api.NodeNone, 0, "")}
		return x
	}
	m.put("=")
	x.Kids = []*api.Node{m.typ()}
	return x
}

func (m *maker) proc(def bool) *api.Node {
	x := m.heading()
	m.put(";")
	if !def {
		x.Kids = append(x.Kids, m.block())
		m.put(x.Name + ";")
	}
	return x
}

func (m *maker) module() *api.Node {
	x := node(api.NodeMod, m.put("MODULE"), m.name())
	m.put(x.Name + ";")
	for m.chance.Intn(3) == 0 {
		i := node(api.NodeImport, m.put("IMPORT"), "")
		i.Kids = m.names()
		m.put(";")
		x.Kids = append(x.Kids, i)
	}
	if m.some() {
		e := node(api.NodeExport, m.put("EXPORT"), "")
		if m.some() {
			m.put("QUALIFIED")
			e.N = 1
		}
		e.Kids = m.names()
		m.put(";")
		x.Kids = append(x.Kids, e)
	}
	x.Kids = append(x.Kids, m.block())
	m.put(x.Name + ";")
	return x
}

func (m *maker) block() *api.Node {
	x := node(api.NodeBlock, m.here(), "")
	x.Kids = m.decls(false)
	body := node(api.NodeBody, m.here(), "")
	switch {
	case m.some():
		m.put("BEGIN")
		body = m.body()
	case m.some():
		m.put("BEGIN")
		body.Pos = m.here()
	}
	m.put("END")
	x.Kids = append(x.Kids, body)
	return x
}

// P8.1: each row that was made is the trees that were made beside it, with their places, whatever stands behind that is not their own.
func TestMade(t *testing.T) {
	for what := range calls() {
		t.Run(what, func(t *testing.T) {
			t.Parallel()
			for seed := range int64(3000) {
				m := newMaker(seed, 30)
				want := texts(m.makes(what))
				for _, rest := range [][]api.Token{nil, {{}}, scanned("END"), scanned("DO ; a")} {
					if got := texts(holds(t, what, slices.Concat(m.row, rest), 0, len(m.row), true)); got != want {
						t.Fatalf("P8.1: %s of %s: %s; want %s", what, lex.Join(m.row), got, want)
					}
				}
			}
		})
	}
}

// P8.2: a block that is cut behind any token of it, but the last, is an error at its end.
func TestCut(t *testing.T) {
	for seed := range int64(400) {
		m := newMaker(seed, 20)
		m.block()
		for cut := range m.row {
			holds(t, "block", m.row[:cut:cut], 0, cut, false)
			holds(t, "block", append(m.row[:cut:cut], api.Token{}), 0, cut, false)
			holds(t, "block", append(m.row[:cut:cut], api.Token{}, scanned("END")[0]), 0, cut, false)
		}
	}
}
