package expr

import (
	"math/rand"
	"strings"
	"testing"

	"separatum/api"
	"separatum/lex"
	"separatum/tree"
)

// maker makes rows, and their trees beside them, by the chapter's grammar.
type maker struct {
	chance *rand.Rand
	row    []api.Token
	left   int // how many operands may still come to be
}

// made is a row that what makes, each token at a place of its own, and its tree.
func made(seed int64, most int, what func(m *maker) *api.Node) ([]api.Token, *api.Node) {
	m := &maker{chance: rand.New(rand.NewSource(seed)), left: 1}
	m.left += m.chance.Intn(most)
	x := what(m)
	return m.row, x
}

// put puts a token at the end of the row, and answers its place.
func (m *maker) put(t api.Token) complex128 {
	at := m.here()
	t.Pos, t.End = at, at+1i
	m.row = append(m.row, t)
	return at
}

func (m *maker) here() complex128 { return complex(7, float64(len(m.row)+1)) }

// more tells whether one more is to come.
func (m *maker) more() bool { return m.left > 0 && m.chance.Intn(5) < 2 }

// one puts one of the texts of symbols and words at the end of the row.
func (m *maker) one(texts string) (at complex128, text string) {
	l := strings.Fields(texts)
	text = l[m.chance.Intn(len(l))]
	if lex.Word(text) {
		return m.put(word(text)), text
	}
	return m.put(sym(text)), text
}

func node(kind uint8, at complex128, name string, n int64, kids ...*api.Node) *api.Node {
	return &api.Node{Kind: kind, Pos: at, Name: name, N: n, Kids: kids}
}

func (m *maker) name() (at complex128, name string) {
	name = []string{"a", "b", "xyz", "IN2", "not"}[m.chance.Intn(5)]
	return m.put(named(name)), name
}

func (m *maker) expr() *api.Node {
	x := m.simple()
	if m.more() {
		at, op := m.one("= # < <= > >= IN")
		x = node(api.NodeBin, at, op, 0, x, m.simple())
	}
	return x
}

func (m *maker) simple() *api.Node {
	var x *api.Node
	if m.chance.Intn(4) == 0 {
		at, op := m.one("+ -")
		x = node(api.NodeUn, at, op, 0, m.term())
	} else {
		x = m.term()
	}
	for m.more() {
		at, op := m.one("+ - OR")
		x = node(api.NodeBin, at, op, 0, x, m.term())
	}
	return x
}

func (m *maker) term() *api.Node {
	x := m.factor()
	for m.more() {
		at, op := m.one("* / DIV MOD AND")
		x = node(api.NodeBin, at, op, 0, x, m.factor())
	}
	return x
}

func (m *maker) factor() *api.Node {
	m.left--
	switch n := m.chance.Int63n(16); {
	case n == 0:
		return node(api.NodeChar, m.put(char(n+65)), "", n+65)
	case n < 3:
		return node(api.NodeNum, m.put(num(n*1000)), "", n*1000)
	case n == 3:
		return node(api.NodeStr, m.put(str("NOT")), "NOT", 0)
	case n < 6 && m.left > 0:
		at, _ := m.one("NOT")
		return node(api.NodeUn, at, "NOT", 0, m.factor())
	case n < 9 && m.left > 0:
		m.one("(")
		x := m.expr()
		m.one(")")
		return x
	case n == 9:
		return m.set(m.here(), node(api.NodeNone, 0, "", 0))
	case n == 10:
		at := m.here()
		return m.set(at, m.qualident())
	case n == 11:
		x := m.designator()
		at, _ := m.one("(")
		var l []*api.Node
		for n := m.chance.Intn(4); len(l) < n; l = append(l, m.expr()) {
			if len(l) > 0 {
				m.one(",")
			}
		}
		m.one(")")
		return node(api.NodeCall, at, "", 0, append([]*api.Node{x}, l...)...)
	}
	return m.designator()
}

func (m *maker) set(at complex128, of *api.Node) *api.Node {
	m.one("{")
	l := []*api.Node{of}
	if m.more() {
		l = append(l, m.elements()...)
	}
	m.one("}")
	return node(api.NodeSet, at, "", 0, l...)
}

func (m *maker) elements() []*api.Node {
	l := []*api.Node{m.element()}
	for m.more() {
		m.one(",")
		l = append(l, m.element())
	}
	return l
}

func (m *maker) element() *api.Node {
	at := m.here()
	x := m.expr()
	if m.more() {
		m.one("..")
		x = node(api.NodeRange, at, "", 0, x, m.expr())
	}
	return x
}

func (m *maker) qualident() *api.Node {
	at, name := m.name()
	x := node(api.NodeName, at, name, 0)
	for m.more() {
		at, _ := m.one(".")
		_, name := m.name()
		x = node(api.NodeDot, at, name, 0, x)
	}
	return x
}

func (m *maker) designator() *api.Node {
	at, name := m.name()
	x := node(api.NodeName, at, name, 0)
	for m.more() {
		switch at, text := m.one(". [ ^"); text {
		case ".":
			_, name := m.name()
			x = node(api.NodeDot, at, name, 0, x)
		case "^":
			x = node(api.NodeDeref, at, "", 0, x)
		case "[":
			x = node(api.NodeIndex, at, "", 0, x, m.expr())
			for m.more() {
				at, _ := m.one(",")
				x = node(api.NodeIndex, at, "", 0, x, m.expr())
			}
			m.one("]")
		}
	}
	return x
}

func (m *maker) labels() *api.Node {
	at := m.here()
	return node(api.NodeLabels, at, "", 0, m.elements()...)
}

// makers is what makes what the calls tell.
func makers() map[string]func(m *maker) *api.Node {
	return map[string]func(m *maker) *api.Node{"expr": (*maker).expr, "designator": (*maker).designator, "qualident": (*maker).qualident, "labels": (*maker).labels}
}

// P6.1: each row that was made is the tree that was made beside it, with its places.
func TestMade(t *testing.T) {
	for what, make := range makers() {
		for seed := range int64(5000) {
			row, want := made(seed, 30, make)
			x := holds(t, what, row, 0, len(row), true)
			if tree.Text(x) != tree.Text(want) {
				t.Fatalf("P6.1: %s of %s: %s; want %s", what, lex.Join(row), tree.Text(x), tree.Text(want))
			}
		}
	}
}

// P6.1: a row that is cut behind any of its tokens is told up to there, or is an error there.
func TestCut(t *testing.T) {
	for what, make := range makers() {
		for seed := range int64(500) {
			row, _ := made(seed, 20, make)
			c := opened(what)
			for cut := range len(row) {
				holds(t, what, row[:cut:cut], 0, cut, c.complete(what))
				c, _ = c.behind(row[cut])
			}
			holds(t, what, row, 0, len(row), c.complete(what))
		}
	}
}

// P6.2: what stands behind, and can't go on with it, makes no difference.
func TestWhateverBehind(t *testing.T) {
	for what, make := range makers() {
		for seed := range int64(300) {
			row, want := made(seed, 20, make)
			c := opened(what)
			for _, one := range row {
				c, _ = c.behind(one)
			}
			for _, one := range all() {
				if _, goes := c.behind(one); goes {
					continue
				}
				x := holds(t, what, append(row[:len(row):len(row)], one, sym("+"), named("a")), 0, len(row), true)
				if tree.Text(x) != tree.Text(want) {
					t.Fatalf("P6.2: %s of %s, and %v: %s; want %s", what, lex.Join(row), one, tree.Text(x), tree.Text(want))
				}
			}
		}
	}
}

// P6.1, P6.2: with another token at any place the error is where the row can't go on, whatever stands behind it.
func TestSpoiled(t *testing.T) {
	tokens := all()
	for what, make := range makers() {
		for seed := range int64(300) {
			row, _ := made(seed, 12, make)
			for i := range row {
				one := tokens[(int(seed)*7+i*13)%len(tokens)]
				spoiled := append(append(row[:i:i], one), row[i+1:]...)
				c, end := opened(what), 0
				for end < len(spoiled) {
					longer, goes := c.behind(spoiled[end])
					if !goes {
						break
					}
					c, end = longer, end+1
				}
				x := holds(t, what, spoiled, 0, end, c.complete(what))
				for j := end + 1; j < len(spoiled); j++ {
					spoiled[j] = tokens[(int(seed)+j*17)%len(tokens)]
				}
				if y := holds(t, what, spoiled, 0, end, c.complete(what)); tree.Text(x) != tree.Text(y) {
					t.Fatalf("P6.2: %s of %s: %s, %s", what, lex.Join(spoiled), tree.Text(x), tree.Text(y))
				}
			}
		}
	}
}

// P6.2: a tree that is written with all its parentheses is that tree.
func TestAllParentheses(t *testing.T) {
	for seed := range int64(3000) {
		_, want := made(seed, 30, (*maker).expr)
		s := written(want)
		l, _, e := lex.Scan(s)
		if e != api.OK {
			t.Fatalf("P6.2: %s: %d", s, e)
		}
		if x := holds(t, "expr", l, 0, len(l)-1, true); !tree.Same(x, want) {
			t.Fatalf("P6.2: %s: %s; want %s", s, tree.Text(x), tree.Text(want))
		}
	}
}

// written is an expression with all its parentheses.
func written(x *api.Node) string {
	kids := make([]string, len(x.Kids))
	for i, k := range x.Kids {
		kids[i] = written(k)
	}
	row := func(from int) string { return strings.Join(kids[min(from, len(kids)):], ", ") }
	switch x.Kind {
	case api.NodeName:
		return x.Name
	case api.NodeDot:
		return kids[0] + "." + x.Name
	case api.NodeDeref:
		return kids[0] + "^"
	case api.NodeIndex:
		return kids[0] + "[" + kids[1] + "]"
	case api.NodeCall:
		return kids[0] + "(" + row(1) + ")"
	case api.NodeSet:
		return kids[0] + "{" + row(1) + "}"
	case api.NodeRange:
		return kids[0] + ".." + kids[1]
	case api.NodeLabels:
		return row(0)
	case api.NodeUn:
		return "(" + x.Name + " " + kids[0] + ")"
	case api.NodeBin:
		return "(" + kids[0] + " " + x.Name + " " + kids[1] + ")"
	case api.NodeNum:
		return lex.Join([]api.Token{num(x.N)})
	case api.NodeChar:
		return lex.Join([]api.Token{char(x.N)})
	case api.NodeStr:
		return lex.Join([]api.Token{str(x.Name)})
	}
	return ""
}
