package stmt

import (
	"math/rand"
	"slices"
	"testing"

	"separatum/api"
	"separatum/expr"
	"separatum/lex"
	"separatum/place"
	"separatum/tree"
)

// maker makes rows, and their trees beside them, by the chapter's grammar.
type maker struct {
	chance *rand.Rand
	spare  *rand.Rand // how many semicolons stand where no statement does; nil: none
	row    []api.Token
	left   int // how many statements may still come to be
}

// made is a body's row, each token at a place of its own, and its tree.
func made(seed int64, most int, spare bool) ([]api.Token, *api.Node) {
	m := &maker{chance: rand.New(rand.NewSource(seed)), left: 1}
	if spare {
		m.spare = rand.New(rand.NewSource(seed + 1))
	}
	m.left += m.chance.Intn(most)
	x := m.body()
	if len(m.row) == 0 {
		x.Pos = 0
	}
	return m.row, x
}

// put puts the tokens of a text at the end of the row, and answers the place of the first one.
func (m *maker) put(text string) complex128 {
	at := m.here()
	l, _, e := lex.Scan(text)
	if e != api.OK {
		panic(text)
	}
	for _, t := range l[:len(l)-1] {
		t.Pos = m.here()
		t.End = t.Pos + 1i
		m.row = append(m.row, t)
	}
	return at
}

func (m *maker) here() complex128 { return place.Of(7, len(m.row)+1) }

func node(kind uint8, at complex128, name string, kids ...*api.Node) *api.Node {
	return &api.Node{Kind: kind, Pos: at, Name: name, Kids: kids}
}

// below puts one of the texts, and answers its tree, as layer 6 has it.
func (m *maker) below(what below, texts ...string) *api.Node {
	at := len(m.row)
	m.put(texts[m.chance.Intn(len(texts))])
	x, next, e := what(m.row, at)
	if e != api.OK || next != len(m.row) {
		panic("a text of another kind")
	}
	return x
}

func (m *maker) expr() *api.Node {
	return m.below(expr.Expr, "a", "1", "'END'", "101C", "a + b * c", "(a = b) OR NOT c", "f()", "f(g(1), -x)", "{}", "m.s{1..2}", "p^.x[i, 2]", "a IN b", "';'", "-a")
}

func (m *maker) designator() *api.Node {
	return m.below(expr.Designator, "a", "b", "m.x", "p^", "a[1, f(2)].c", "p^.x[i, 2]", "a[(b)]^^")
}

func (m *maker) labels() *api.Node {
	return m.below(expr.Labels, "1", "1, 2..3", "'a'..'z', 0C", "-c", "m.red, m.blue", "(1)..(2)")
}

// semicolons puts some that stand where no statement does.
func (m *maker) semicolons() {
	if m.spare == nil {
		return
	}
	for m.spare.Intn(3) == 0 {
		m.put(";")
	}
}

func (m *maker) body() *api.Node {
	x := node(api.NodeBody, m.here(), "")
	m.semicolons()
	for n := m.chance.Intn(4); n > 0 && m.left > 0; n-- {
		if len(x.Kids) > 0 {
			m.put(";")
			m.semicolons()
		}
		m.left--
		x.Kids = append(x.Kids, m.statement())
	}
	if len(x.Kids) > 0 {
		m.semicolons()
	}
	return x
}

func (m *maker) statement() *api.Node {
	l := []func() *api.Node{m.assign, m.do, m.ifs, m.cases, m.whiles, m.repeat, m.loop, m.exit, m.fors, m.with, m.returns}
	return l[m.chance.Intn(len(l))]()
}

func (m *maker) assign() *api.Node {
	x := m.designator()
	at := m.put(":=")
	return node(api.NodeAssign, at, "", x, m.expr())
}

func (m *maker) do() *api.Node {
	at := m.here()
	l := []*api.Node{m.designator()}
	n := m.chance.Intn(5) - 1
	if n < 0 {
		return node(api.NodeDo, at, "", l...)
	}
	m.put("(")
	for i := range n {
		if i > 0 {
			m.put(",")
		}
		l = append(l, m.expr())
	}
	m.put(")")
	return node(api.NodeDo, at, "", l...)
}

func (m *maker) ifs() *api.Node {
	x := node(api.NodeIf, m.put("IF"), "", m.expr())
	m.put("THEN")
	x.Kids = append(x.Kids, m.body())
	for m.chance.Intn(3) == 0 {
		m.put("ELSIF")
		x.Kids = append(x.Kids, m.expr())
		m.put("THEN")
		x.Kids = append(x.Kids, m.body())
	}
	if m.chance.Intn(2) == 0 {
		m.put("ELSE")
		x.Kids = append(x.Kids, m.body())
	}
	m.put("END")
	return x
}

func (m *maker) cases() *api.Node {
	x := node(api.NodeCase, m.put("CASE"), "", m.expr())
	m.put("OF")
	for n := m.chance.Intn(5); n > 0; n-- {
		if m.chance.Intn(3) > 0 {
			at := m.here()
			labels := m.labels()
			m.put(":")
			x.Kids = append(x.Kids, node(api.NodeArm, at, "", labels, m.body()))
		}
		if n > 1 {
			m.put("|")
		}
	}
	if m.chance.Intn(2) == 0 {
		at := m.put("ELSE")
		x.Kids = append(x.Kids, node(api.NodeElse, at, "", m.body()))
	}
	m.put("END")
	return x
}

// ended is the body behind DO, ahead of END.
func (m *maker) ended() *api.Node {
	m.put("DO")
	x := m.body()
	m.put("END")
	return x
}

func (m *maker) whiles() *api.Node {
	at := m.put("WHILE")
	x := m.expr()
	return node(api.NodeWhile, at, "", x, m.ended())
}

func (m *maker) repeat() *api.Node {
	at := m.put("REPEAT")
	x := m.body()
	m.put("UNTIL")
	return node(api.NodeRepeat, at, "", x, m.expr())
}

func (m *maker) loop() *api.Node {
	at := m.put("LOOP")
	x := m.body()
	m.put("END")
	return node(api.NodeLoop, at, "", x)
}

func (m *maker) exit() *api.Node { return node(api.NodeExit, m.put("EXIT"), "") }

func (m *maker) fors() *api.Node {
	at := m.put("FOR")
	name := []string{"i", "jj", "FORs"}[m.chance.Intn(3)]
	m.put(name + " :=")
	from := m.expr()
	m.put("TO")
	to := m.expr()
	by := node(api.NodeNone, 0, "")
	if m.chance.Intn(2) == 0 {
		m.put("BY")
		by = m.expr()
	}
	return node(api.NodeFor, at, name, from, to, by, m.ended())
}

func (m *maker) with() *api.Node {
	at := m.put("WITH")
	x := m.designator()
	return node(api.NodeWith, at, "", x, m.ended())
}

func (m *maker) returns() *api.Node {
	at := m.put("RETURN")
	if m.chance.Intn(2) == 0 {
		return node(api.NodeReturn, at, "")
	}
	return node(api.NodeReturn, at, "", m.expr())
}

// P7.1: each row that was made is the tree that was made beside it, with its places.
func TestMade(t *testing.T) {
	for seed := range int64(6000) {
		row, want := made(seed, 20, seed%2 > 0)
		x := holds(t, row, 0, len(row), true)
		if tree.Text(x) != tree.Text(want) {
			t.Fatalf("P7.1: %s: %s; want %s", lex.Join(row), tree.Text(x), tree.Text(want))
		}
	}
}

// P7.2: semicolons where no statement stands make no difference but to places.
func TestSemicolons(t *testing.T) {
	for seed := range int64(3000) {
		row, want := made(seed, 20, false)
		more, _ := made(seed, 20, true)
		x := holds(t, more, 0, len(more), true)
		if !tree.Same(x, want) {
			t.Fatalf("P7.2: %s: %s; as %s: %s", lex.Join(more), tree.Text(x), lex.Join(row), tree.Text(want))
		}
	}
}

// P7.1: a row that is cut behind any of its tokens is told up to there, or is an error there.
func TestCut(t *testing.T) {
	begin := opened(rules(chapters))
	for seed := range int64(300) {
		row, _ := made(seed, 12, seed%2 > 0)
		c := begin
		for cut, one := range row {
			holds(t, row[:cut:cut], 0, cut, c.complete("end"))
			end := append(slices.Clip(row[:cut]), api.Token{})
			holds(t, end, 0, cut, c.complete("end"))
			c = c.behind(one)
		}
		holds(t, row, 0, len(row), c.complete("end"))
	}
}

// P7.1, P7.2: with another token at any place the error is where the row can't go on, whatever stands behind it.
func TestSpoiled(t *testing.T) {
	with := all()
	begin := opened(rules(chapters))
	for seed := range int64(150) {
		row, _ := made(seed, 10, seed%2 > 0)
		for i := range row {
			spoiled := slices.Concat(row[:i], []api.Token{with[(int(seed)*7+i*13)%len(with)]}, row[i+1:])
			c := begin.through(spoiled)
			end, behind := len(c.row), "end"
			if end < len(spoiled) {
				behind = class(spoiled[end])
			}
			x := holds(t, spoiled, 0, end, c.complete(behind))
			for j := end + 1; j < len(spoiled); j++ {
				spoiled[j] = with[(int(seed)+j*17)%len(with)]
			}
			if y := holds(t, spoiled, 0, end, c.complete(behind)); tree.Text(x) != tree.Text(y) {
				t.Fatalf("P7.2: %s: %s, %s", lex.Join(spoiled), tree.Text(x), tree.Text(y))
			}
		}
	}
}
