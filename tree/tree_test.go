package tree

import (
	"math"
	"testing"

	"separatum/api"
)

// node is a node of kind 1 with these kids.
func node(kids ...*api.Node) *api.Node { return New(api.NodeName, 1+1i, "", 0, kids...) }

// chain is a tree of n nodes, each below the other.
func chain(n int) *api.Node {
	var x *api.Node
	for i := range n {
		x = &api.Node{Kind: api.NodeUn, N: int64(i), Kids: []*api.Node{x}}
		if i == 0 {
			x.Kids = nil
		}
	}
	return x
}

// bush is a node with n - 1 kids.
func bush(n int) *api.Node {
	x := &api.Node{Kind: api.NodeBody}
	for i := range n - 1 {
		x.Kids = append(x.Kids, &api.Node{Kind: api.NodeExit, N: int64(i)})
	}
	return x
}

// shapes is all trees of n nodes, of one kind.
func shapes(n int) []*api.Node {
	var l []*api.Node
	for _, kids := range woods(n - 1) {
		l = append(l, node(kids...))
	}
	return l
}

// woods is all rows of trees that have n nodes together.
func woods(n int) [][]*api.Node {
	if n == 0 {
		return [][]*api.Node{nil}
	}
	var l [][]*api.Node
	for first := 1; first <= n; first++ {
		for _, x := range shapes(first) {
			for _, others := range woods(n - first) {
				l = append(l, append([]*api.Node{x}, others...))
			}
		}
	}
	return l
}

// nodes is the nodes of x, from above, each as often as it stands there.
func nodes(x *api.Node) []*api.Node {
	l := []*api.Node{x}
	for _, k := range x.Kids {
		l = append(l, nodes(k)...)
	}
	return l
}

// levels is the nodes of x, level by level.
func levels(x *api.Node) [][]*api.Node {
	var l [][]*api.Node
	for row := []*api.Node{x}; len(row) > 0; {
		l = append(l, row)
		var below []*api.Node
		for _, n := range row {
			below = append(below, n.Kids...)
		}
		row = below
	}
	return l
}

// exact tells whether a and b are the same, with their places.
func exact(a, b *api.Node) bool {
	if a == nil || b == nil {
		return a == b
	}
	if a.Kind != b.Kind || a.Pos != b.Pos || a.Name != b.Name || a.N != b.N || len(a.Kids) != len(b.Kids) {
		return false
	}
	for i := range a.Kids {
		if !exact(a.Kids[i], b.Kids[i]) {
			return false
		}
	}
	return true
}

// endless is what looks like trees, but has nodes that stand below themselves.
func endless() []*api.Node {
	self, two, low := node(), node(node()), node(node(node()))
	self.Kids = append(self.Kids, self)
	two.Kids[0].Kids = append(two.Kids[0].Kids, node(), two)
	low.Kids[0].Kids[0].Kids = append(low.Kids[0].Kids[0].Kids, low.Kids[0], low.Kids[0])
	return []*api.Node{self, two, low, node(node(), self, node())}
}

// P5.1
func TestNew(t *testing.T) {
	a, b := node(), node(node())
	x := New(api.NodeBin, 3+4i, "MOD", -7, a, nil, b, nil)
	if x.Kind != api.NodeBin || x.Pos != 3+4i || x.Name != "MOD" || x.N != -7 || len(x.Kids) != 4 {
		t.Fatal("P5.1", x)
	}
	if x.Kids[0] != a || x.Kids[2] != b || len(b.Kids) != 1 {
		t.Error("P5.1: the kids")
	}
	for _, i := range []int{1, 3} {
		if !exact(x.Kids[i], &api.Node{Kind: api.NodeNone}) {
			t.Error("P5.1: where none stands", x.Kids[i])
		}
	}
	if x.Kids[1] == x.Kids[3] {
		t.Error("P5.1: one node stands in two places")
	}
	for _, x := range []*api.Node{New(0, 0, "", 0), New(1, 2, "", 0, []*api.Node{}...), New(255, -0.5i, "\x00(:", math.MinInt64)} {
		if x == nil || len(x.Kids) != 0 {
			t.Error("P5.1: no kids", x)
		}
	}
	if x := New(255, -0.5i, "\x00(:", math.MinInt64); x.Kind != 255 || x.Pos != -0.5i || x.Name != "\x00(:" || x.N != math.MinInt64 {
		t.Error("P5.1: what no program has", x)
	}
}

// R5, of P5.1
func TestNewKeepsNoList(t *testing.T) {
	a, b := node(), node()
	l := []*api.Node{a, nil, b, a}
	x := New(1, 0, "", 0, l[:3]...)
	if l[0] != a || l[1] != nil || l[2] != b || l[3] != a {
		t.Error("R5: the list is changed")
	}
	l[0] = nil
	if x.Kids[0] != a {
		t.Error("R5: the list is kept")
	}
	x.Kids = append(x.Kids, b)
	if l[3] != a {
		t.Error("R5: the list is written to")
	}
}

// P5.1
func TestSame(t *testing.T) {
	fresh := func() *api.Node { return New(1, 1+1i, "a", 2, node(nil, node()), New(2, 0, "b", -1)) }
	if !Same(fresh(), fresh()) || !Same(nil, nil) || Same(fresh(), nil) || Same(nil, fresh()) || Same(nil, &api.Node{}) {
		t.Error("P5.1: the same, or nil")
	}
	for i := range nodes(fresh()) {
		for j, change := range []func(*api.Node){
			func(x *api.Node) { x.Kind++ },
			func(x *api.Node) { x.Name += "a" },
			func(x *api.Node) { x.N-- },
			func(x *api.Node) { x.Kids = append(x.Kids, &api.Node{}) },
			func(x *api.Node) { x.Kids = append([]*api.Node{node()}, x.Kids...) },
		} {
			a, b := fresh(), fresh()
			change(nodes(b)[i])
			if Same(a, b) || Same(b, a) {
				t.Error("P5.1: a change", i, j)
			}
			change(nodes(a)[i])
			if !Same(a, b) {
				t.Error("P5.1: the same change", i, j)
			}
		}
		a, b := fresh(), fresh()
		for _, p := range []complex128{0, 7 + 7i, complex(math.NaN(), 1)} {
			nodes(b)[i].Pos = p
			if !Same(a, b) {
				t.Error("P5.1: places count", i, p)
			}
		}
	}
	if Same(node(node(), node(node())), node(node(node()), node())) {
		t.Error("P5.1: the order of kids")
	}
	if a := node(node()); !Same(node(a, a), node(node(node()), node(node()))) || Same(node(a, a), node(a, node())) {
		t.Error("P5.1: a tree that stands there twice")
	}
}

// P5.1: each tree is the same as itself alone.
func TestSameShapes(t *testing.T) {
	var l, again []*api.Node
	for n := 1; n <= 6; n++ {
		l, again = append(l, shapes(n)...), append(again, shapes(n)...)
	}
	for i, a := range l {
		for j, b := range again {
			if Same(a, b) != (i == j) {
				t.Fatal("P5.1", Text(a), Text(b))
			}
		}
	}
}

// P5.1, P5.3
func TestCopy(t *testing.T) {
	if Copy(nil) != nil {
		t.Error("P5.1: a copy of nil")
	}
	odd := New(200, 0.5i, "(\n", math.MinInt64, nil, New(0, -1, "none", 1), node())
	for _, x := range append(append(shapes(5), shapes(6)...), odd, chain(200), bush(200)) {
		before := Text(x)
		c := Copy(x)
		if !exact(c, x) || !Same(c, x) {
			t.Fatal("P5.1", Text(c), Text(x))
		}
		mine := map[*api.Node]bool{}
		for _, n := range nodes(x) {
			mine[n] = true
		}
		for _, n := range nodes(c) {
			if mine[n] {
				t.Fatal("P5.1: a node of both", before)
			}
			mine[n] = true
			n.Kind, n.Pos, n.Name, n.N = n.Kind+1, 9+9i, n.Name+"z", n.N+1
		}
		c.Kids = append(c.Kids, node())
		if Text(x) != before {
			t.Fatal("P5.3: a copy that is changed changes", before, Text(x))
		}
		cut := Copy(x)
		for _, n := range nodes(cut) {
			for i := range n.Kids {
				n.Kids[i] = nil
			}
		}
		if Text(x) != before {
			t.Fatal("P5.3: a copy's lists are another one's", before, Text(x))
		}
	}
	nan := Copy(New(1, complex(math.NaN(), 2), "", 0))
	if !math.IsNaN(real(nan.Pos)) || imag(nan.Pos) != 2 {
		t.Error("P5.1: the place of a copy", nan.Pos)
	}
}

// P5.1: what stands in two places is copied for each of them.
func TestCopyApart(t *testing.T) {
	a := node(node())
	c := Copy(node(a, node(a)))
	c.Kids[0].Kids[0].N = 5
	if len(nodes(c)) != 6 || c.Kids[1].Kids[0].Kids[0].N != 0 || a.Kids[0].N != 0 {
		t.Error("P5.1", Text(c))
	}
}

// P5.1
func TestCountDeep(t *testing.T) {
	if Count(nil) != 0 || Deep(nil) != 0 {
		t.Error("P5.1: of nil")
	}
	for n := 1; n <= 7; n++ {
		for _, x := range shapes(n) {
			if Count(x) != n || Deep(x) != len(levels(x)) {
				t.Fatal("P5.1", Text(x), Count(x), Deep(x))
			}
		}
	}
	for _, n := range []int{1, 2, api.MaxDeep, api.MaxDeep + 1, api.MaxNodes, api.MaxNodes + 1} {
		if Count(chain(n)) != n || Deep(chain(n)) != n || Count(bush(n)) != n || Deep(bush(n)) != min(n, 2) {
			t.Error("P5.1", n)
		}
	}
	if x := New(1, 0, "", 0, nil, nil); Count(x) != 3 || Deep(x) != 2 {
		t.Error("P5.1: where none stands is a node", Count(x), Deep(x))
	}
	x := node()
	for range 40 {
		x = node(x, x)
	}
	if Count(x) != 1<<41-1 || Deep(x) != 41 {
		t.Error("P5.1: trees that stand there twice", Count(x), Deep(x))
	}
}

// R1: a nil among the kids is as nil is.
func TestNilKids(t *testing.T) {
	fresh := func() *api.Node {
		return &api.Node{Kind: 1, Kids: []*api.Node{nil, {Kind: 2, Kids: []*api.Node{nil}}, nil}}
	}
	x := fresh()
	if Count(x) != 2 || Deep(x) != 2 || Text(x) != "(1 - 0: 0  (2 - 0: 0 ) )" {
		t.Error("R1", Count(x), Deep(x), Text(x))
	}
	if !Same(x, fresh()) || Same(x, New(1, 0, "", 0, x.Kids...)) || !exact(x, Copy(x)) {
		t.Error("R1", Text(Copy(x)))
	}
}

// R1: every call ends, whatever it is given.
func TestEveryCallEnds(t *testing.T) {
	other := endless()
	for i, x := range endless() {
		if Count(x) != 0 || Deep(x) != 0 || Text(x) != "" || Copy(x) != nil {
			t.Error("R1: what is no tree", i)
		}
		if Same(x, nil) || Same(nil, x) || Same(x, node()) || Same(x, chain(50)) || Same(chain(50), x) {
			t.Error("R1: what is no tree is the same as one", i)
		}
		Same(x, other[i])
		if y := New(1, 0, "", 0, x, nil); len(y.Kids) != 2 || y.Kids[0] != x {
			t.Error("R1", i)
		}
	}
	const far = 1 << 18
	x := chain(far)
	if Count(x) != far || Deep(x) != far || !Same(x, chain(far)) || Same(x, chain(far-1)) || !Same(Copy(x), x) {
		t.Error("R1: a deep tree")
	}
	if s := Text(x); len(s) < far || s[len(s)-2:] != "))" {
		t.Error("R1: the text of a deep tree")
	}
}
