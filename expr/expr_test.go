package expr

import (
	"math"
	"runtime/debug"
	"strings"
	"testing"

	"separatum/api"
	"separatum/lex"
	"separatum/tree"
)

// scanned is the tokens of s, with the end.
func scanned(t *testing.T, s string) []api.Token {
	t.Helper()
	l, _, e := lex.Scan(s)
	if e != api.OK {
		t.Fatalf("%q is no source: %d", s, e)
	}
	return l
}

// P6.1: what is told, with all its parentheses, and the next place.
func TestTold(t *testing.T) {
	for _, x := range []struct {
		what, s, want string
		next          int
	}{
		{"expr", "a - b * c", "(a - (b * c))", 5},
		{"expr", "a - b - c", "((a - b) - c)", 5},
		{"expr", "a / b DIV c MOD d AND e * f", "(((((a / b) DIV c) MOD d) AND e) * f)", 11},
		{"expr", "a + b OR c - d", "(((a + b) OR c) - d)", 7},
		{"expr", "a * b + c * d", "((a * b) + (c * d))", 7},
		{"expr", "a & b OR ~ c & d", "((a AND b) OR ((NOT c) AND d))", 8},
		{"expr", "-a + b", "((- a) + b)", 4},
		{"expr", "-a * b + c", "((- (a * b)) + c)", 6},
		{"expr", "+a = -b", "((+ a) = (- b))", 5},
		{"expr", "a + 1 <= b * 2", "((a + 1) <= (b * 2))", 7},
		{"expr", "a <> b", "(a # b)", 3},
		{"expr", "a IN {1, 2..b}", "(a IN {1, 2..b})", 9},
		{"expr", "NOT a = b", "((NOT a) = b)", 4},
		{"expr", "NOT NOT a", "(NOT (NOT a))", 3},
		{"expr", "NOT (a = b)", "(NOT (a = b))", 6},
		{"expr", "a = b = c", "(a = b)", 3},
		{"expr", "(a = b) = c", "((a = b) = c)", 7},
		{"expr", "((a))", "a", 5},
		{"expr", "(-a) * (b + c)", "((- a) * (b + c))", 10},
		{"expr", "(a).b", "a", 3},
		{"expr", "(a)(b)", "a", 3},
		{"expr", "1 2", "1", 1},
		{"expr", "a b", "a", 1},
		{"expr", "a .. b", "a", 1},
		{"expr", "a := b", "a", 1},
		{"expr", "1.2", "1", 1},
		{"expr", "'a' + 101C", `("a" + 101C)`, 3},
		{"expr", "''", `""`, 1},
		{"expr", "p^.x[i, 2]", "p^.x[i][2]", 9},
		{"expr", "a[b[1], c]^[2]", "a[b[1]][c]^[2]", 13},
		{"expr", "f()", "f()", 3},
		{"expr", "f(a, -b, f(c))", "f(a, (- b), f(c))", 12},
		{"expr", "f(a)(b)", "f(a)", 4},
		{"expr", "f(a)^", "f(a)", 4},
		{"expr", "f(a).b", "f(a)", 4},
		{"expr", "f(a)[1]", "f(a)", 4},
		{"expr", "f(a){1}", "f(a)", 4},
		{"expr", "m.f(a)", "m.f(a)", 6},
		{"expr", "p^(a) + 1", "(p^(a) + 1)", 7},
		{"expr", "{}", "{}", 2},
		{"expr", "{} + {a}", "({} + {a})", 6},
		{"expr", "s{}", "s{}", 3},
		{"expr", "m.s{1..2, 3}", "m.s{1..2, 3}", 10},
		{"expr", "s{1}{2}", "s{1}", 4},
		{"expr", "s{1}(2)", "s{1}", 4},
		{"expr", "a[1]{2}", "a[1]", 4},
		{"expr", "a^{2}", "a^", 2},
		{"expr", "a^.b{2}", "a^.b", 4},
		{"expr", "{a = b..c = d, e}", "{(a = b)..(c = d), e}", 11},

		{"designator", "a", "a", 1},
		{"designator", "a.b.c", "a.b.c", 5},
		{"designator", "a.b{1}", "a.b", 3},
		{"designator", "f(a)", "f", 1},
		{"designator", "p^.x[i, 2] := 1", "p^.x[i][2]", 9},
		{"designator", "p^^[1][a + b]", "p^^[1][(a + b)]", 11},
		{"designator", "a + b", "a", 1},

		{"qualident", "a", "a", 1},
		{"qualident", "a.b.c", "a.b.c", 5},
		{"qualident", "a.b[1]", "a.b", 3},
		{"qualident", "a^", "a", 1},
		{"qualident", "a..b", "a", 1},
		{"qualident", "a b", "a", 1},

		{"labels", "1: a", "1", 1},
		{"labels", "1, 2..3, 'a'..'b', -c + 1: d", `1, 2..3, "a".."b", ((- c) + 1)`, 14},
		{"labels", "1..2..3", "1..2", 3},
		{"labels", "a = 1 | 2", "(a = 1)", 3},
	} {
		tree := holds(t, x.what, scanned(t, x.s), 0, x.next, true)
		if s := written(tree); s != x.want {
			t.Errorf("P6.1: %s of %s: %s; want %s", x.what, x.s, s, x.want)
		}
	}
}

// P6.1: kinds, places, names, numbers and kids of all nodes.
func TestNodes(t *testing.T) {
	for _, x := range []struct{ what, s, want string }{
		{"expr", "ab", "(1 1:1 2:ab 0)"},
		{"expr", "0FFH", "(5 1:1 0: 255)"},
		{"expr", "101C", "(6 1:1 0: 65)"},
		{"expr", "'q r'", "(7 1:1 3:q r 0)"},
		{"expr", "a\n -b", "(11 2:2 1:- 0 (1 1:1 1:a 0) (1 2:3 1:b 0))"},
		{"expr", "a & b", "(11 1:3 3:AND 0 (1 1:1 1:a 0) (1 1:5 1:b 0))"},
		{"expr", " + a", "(12 1:2 1:+ 0 (1 1:4 1:a 0))"},
		{"expr", "~ a", "(12 1:1 3:NOT 0 (1 1:3 1:a 0))"},
		{"expr", "(a)", "(1 1:2 1:a 0)"},
		{"expr", "((a)+b)", "(11 1:5 1:+ 0 (1 1:3 1:a 0) (1 1:6 1:b 0))"},
		{"expr", "a . b", "(2 1:3 1:b 0 (1 1:1 1:a 0))"},
		{"expr", "a ^", "(4 1:3 0: 0 (1 1:1 1:a 0))"},
		{"expr", "a [1 ,2]", "(3 1:6 0: 0 (3 1:3 0: 0 (1 1:1 1:a 0) (5 1:4 0: 1)) (5 1:7 0: 2))"},
		{"expr", "f ()", "(10 1:3 0: 0 (1 1:1 1:f 0))"},
		{"expr", "m.f (1, a)", "(10 1:5 0: 0 (2 1:2 1:f 0 (1 1:1 1:m 0)) (5 1:6 0: 1) (1 1:9 1:a 0))"},
		{"expr", " {}", "(8 1:2 0: 0 (0 - 0: 0))"},
		{"expr", " m.s {1}", "(8 1:2 0: 0 (2 1:3 1:s 0 (1 1:2 1:m 0)) (5 1:7 0: 1))"},
		{"expr", "{ (a)+1..b, c}", "(8 1:1 0: 0 (0 - 0: 0) (9 1:3 0: 0 (11 1:6 1:+ 0 (1 1:4 1:a 0) (5 1:7 0: 1)) (1 1:10 1:b 0)) (1 1:13 1:c 0))"},
		{"designator", " a.b", "(2 1:3 1:b 0 (1 1:2 1:a 0))"},
		{"qualident", " a.b", "(2 1:3 1:b 0 (1 1:2 1:a 0))"},
		{"labels", " (1), 2 .. 3", "(29 1:2 0: 0 (5 1:3 0: 1) (9 1:7 0: 0 (5 1:7 0: 2) (5 1:12 0: 3)))"},
		{"labels", " -1", "(29 1:2 0: 0 (12 1:2 1:- 0 (5 1:3 0: 1)))"},
	} {
		l := scanned(t, x.s)
		if s := tree.Text(holds(t, x.what, l, 0, len(l)-1, true)); s != x.want {
			t.Errorf("P6.1: %s of %q: %s; want %s", x.what, x.s, s, x.want)
		}
	}
}

// P6.1: errors stand at the first token that can't stand there.
func TestErrors(t *testing.T) {
	for _, x := range []struct {
		what, s string
		at      int
	}{
		{"expr", "", 0}, {"expr", ")", 0}, {"expr", "END", 0}, {"expr", "* a", 0}, {"expr", "IN a", 0}, {"expr", "= a", 0}, {"expr", ".. a", 0}, {"expr", "^", 0}, {"expr", "[a]", 0},
		{"expr", "(a", 2}, {"expr", "(", 1}, {"expr", "()", 1}, {"expr", "(a b)", 2}, {"expr", "(a, b)", 2}, {"expr", "(a]", 2}, {"expr", "(a = b = c)", 4}, {"expr", "((a)", 4},
		{"expr", "- - a", 1}, {"expr", "a + - b", 2}, {"expr", "a * - b", 2}, {"expr", "a = b + - c", 4}, {"expr", "-", 1}, {"expr", "- NOT + a", 2}, {"expr", "NOT - a", 1}, {"expr", "NOT", 1}, {"expr", "a * NOT", 3},
		{"expr", "a +", 2}, {"expr", "a + ;", 2}, {"expr", "a = = b", 2}, {"expr", "a * * b", 2}, {"expr", "a + END", 2}, {"expr", "a IN", 2},
		{"expr", "a.", 2}, {"expr", "a.1", 2}, {"expr", "a.END", 2}, {"expr", "a.b.", 4}, {"expr", "p^.", 3}, {"expr", "p^.(", 3}, {"expr", "a[1].2", 5},
		{"expr", "a[", 2}, {"expr", "a[]", 2}, {"expr", "a[1", 3}, {"expr", "a[1)", 3}, {"expr", "a[1,]", 4}, {"expr", "a[1,", 4}, {"expr", "a[1..2]", 3}, {"expr", "a[,1]", 2},
		{"expr", "f(", 2}, {"expr", "f(a", 3}, {"expr", "f(a,", 4}, {"expr", "f(a,)", 4}, {"expr", "f(,a)", 2}, {"expr", "f(a b)", 3}, {"expr", "f(a..b)", 3}, {"expr", "f(a]", 3}, {"expr", "f(a;", 3},
		{"expr", "{", 1}, {"expr", "{a", 2}, {"expr", "{a,}", 3}, {"expr", "{,a}", 1}, {"expr", "{a..}", 3}, {"expr", "{..a}", 1}, {"expr", "{a..b..c}", 4}, {"expr", "{a b}", 2}, {"expr", "{a)", 2}, {"expr", "s{", 2}, {"expr", "m.s{1", 5},
		{"designator", "", 0}, {"designator", "1", 0}, {"designator", "(a)", 0}, {"designator", "{}", 0}, {"designator", "a.", 2}, {"designator", "a[", 2}, {"designator", "a[1", 3}, {"designator", "a^.1", 3}, {"designator", "a[1 2]", 3}, {"designator", "-a", 0},
		{"qualident", "", 0}, {"qualident", "1", 0}, {"qualident", "'a'", 0}, {"qualident", "WITH", 0}, {"qualident", ".a", 0}, {"qualident", "a.", 2}, {"qualident", "a.b.1", 4}, {"qualident", "a.MOD", 2},
		{"labels", "", 0}, {"labels", ":", 0}, {"labels", ", 1", 0}, {"labels", "1,", 2}, {"labels", "1, :", 2}, {"labels", "1..", 2}, {"labels", "1..:", 2}, {"labels", "1,,2", 2}, {"labels", "..1", 0}, {"labels", "1, 2..3, (4", 8},
	} {
		holds(t, x.what, scanned(t, x.s), 0, x.at, false)
		l := scanned(t, x.s)
		holds(t, x.what, l[:len(l)-1:len(l)-1], 0, x.at, false)
	}
}

// P6.1: a place below 0, at the row's end, and behind it.
func TestPlaces(t *testing.T) {
	l := scanned(t, "a + b")
	for what := range readings() {
		for _, row := range [][]api.Token{nil, {}, l[:0], l, l[:3]} {
			for _, at := range []int{-1, -2, -1000, math.MinInt} {
				holds(t, what, row, at, 0, false)
			}
			for _, at := range []int{len(row), len(row) + 1, len(row) + 1000, math.MaxInt - 1, math.MaxInt} {
				holds(t, what, row, at, at, false)
			}
		}
		holds(t, what, l, 3, 3, false)
		holds(t, what, l, 2, 3, true)
		holds(t, what, l[:3], 2, 3, true)
	}
	holds(t, "expr", l, 0, 3, true)
	holds(t, "expr", l, 1, 3, true)
	holds(t, "qualident", l, 1, 1, false)
	holds(t, "expr", append(scanned(t, "a"), scanned(t, "+ b")...), 0, 1, true)
	holds(t, "expr", append(scanned(t, "a +"), scanned(t, "b")...), 0, 2, false)
}

// P6.1: it is the kind of a token that tells, not its text alone.
func TestKinds(t *testing.T) {
	for _, s := range strings.Fields("+ - * / . , ( [ { ^ = # < > <= >= .. ) ] } IN OR DIV MOD AND NOT") {
		for _, one := range []api.Token{named(s), str(s)} {
			for what := range readings() {
				holds(t, what, put(named("a"), one, named("b")), 0, 1, true)
			}
			holds(t, "expr", put(one, one), 0, 1, true)
			holds(t, "expr", put(sym("("), one, sym(")")), 0, 3, true)
			holds(t, "labels", put(one, sym(","), one, one), 0, 3, true)
			holds(t, "expr", put(named("f"), sym("("), one, one), 0, 3, false)
		}
	}
	for _, s := range []string{"a", "", "1", "<>", "&", "~", ":="} {
		holds(t, "expr", put(sym(s)), 0, 0, false)
		holds(t, "expr", put(word(s)), 0, 0, false)
		holds(t, "expr", put(named("a"), sym(s), named("b")), 0, 1, true)
	}
	for _, kind := range []uint8{api.TokEnd, 7, 100, 255} {
		for what := range readings() {
			holds(t, what, []api.Token{{Kind: kind, Text: "a", N: 1}}, 0, 0, false)
			holds(t, what, append(put(named("a")), api.Token{Kind: kind, Text: "+"}, named("b")), 0, 1, true)
		}
	}
}

// R5: a row is neither changed nor kept, and no two answers share anything.
func TestNothingShared(t *testing.T) {
	const s = "a.b[1, c]^ + f(-d, {e..2}) * NOT s{'x'}"
	for what := range readings() {
		l, again := scanned(t, s), scanned(t, s)
		x, next, e := readings()[what](l, 0)
		for i := range l {
			if l[i] != again[i] {
				t.Fatal("R5: the row is changed", what, i)
			}
		}
		want := tree.Text(x)
		y, _, _ := readings()[what](l, 0)
		for work := []*api.Node{y}; len(work) > 0; work = work[1:] {
			work = append(work, work[0].Kids...)
			work[0].Kind, work[0].Name = 200, "changed"
			clear(work[0].Kids[:cap(work[0].Kids)])
		}
		for i := range l {
			l[i] = api.Token{}
		}
		if tree.Text(x) != want {
			t.Error("R5: an answer hangs on another one, or on the row", what)
		}
		if z, n, f := readings()[what](again, 0); tree.Text(z) != want || n != next || f != e {
			t.Error("R6", what)
		}
	}
}

// R1: no row is too deep, and none too long: what is read needs no more calls within others than a short row does.
func TestDeep(t *testing.T) {
	const n = 1 << 15
	defer debug.SetMaxStack(debug.SetMaxStack(1 << 19))
	for _, x := range []struct {
		what               string
		ahead, mid, behind []api.Token
		deep               int
	}{
		{"expr", put(sym("(")), put(named("a")), put(sym(")")), 1},
		{"expr", put(word("NOT")), put(named("a")), nil, n + 1},
		{"expr", put(word("NOT"), sym("(")), put(named("a")), put(sym(")")), n + 1},
		{"expr", put(sym("-"), sym("(")), put(named("a")), put(sym(")")), n + 1},
		{"expr", put(num(1), sym("*"), sym("(")), put(named("a")), put(sym(")")), n + 1},
		{"expr", put(named("f"), sym("(")), put(named("a")), put(sym(")")), n + 1},
		{"designator", put(named("a"), sym("[")), put(num(1)), put(sym("]")), n + 1},
		{"labels", put(sym("{"), num(1), sym("..")), put(num(1)), put(sym("}")), 2*n + 2},
		{"expr", put(named("s"), sym("{")), put(num(1)), put(sym("}")), n + 1},
		{"expr", put(named("a"), sym("+")), put(num(1)), nil, n + 1},
		{"expr", put(named("a"), sym("*")), put(num(1)), nil, n + 1},
		{"qualident", nil, put(named("a")), put(sym("."), named("b")), n + 1},
		{"designator", nil, put(named("a")), put(sym("^")), n + 1},
		{"designator", nil, put(named("a")), put(sym("["), num(1), sym("]")), n + 1},
		{"designator", nil, put(named("a")), put(sym("."), named("b"), sym("^")), 2*n + 1},
		{"labels", put(num(1), sym(",")), put(num(1)), nil, 2},
		{"labels", put(num(1), sym(".."), num(2), sym(",")), put(num(1)), nil, 3},
	} {
		row := many(n, x.ahead)
		row = append(append(row, x.mid...), many(n, x.behind)...)
		if got := tree.Deep(holds(t, x.what, row, 0, len(row), true)); got != x.deep {
			t.Errorf("R1: %s of %v ..: %d deep, want %d", x.what, x.ahead, got, x.deep)
		}
		if len(x.ahead) > 0 {
			cut := n * len(x.ahead)
			holds(t, x.what, row[:cut:cut], 0, cut, false)
		}
		if len(x.ahead) > 0 && len(x.behind) > 0 {
			holds(t, x.what, append(row[:len(row)-1:len(row)-1], sym(";")), 0, len(row)-1, false)
		}
	}
	row := append(put(named("f"), sym("(")), many(n, put(num(1), sym(",")))...)
	if x := holds(t, "expr", append(row, num(2), sym(")")), 0, len(row)+2, true); len(x.Kids) != n+2 {
		t.Error("P6.1: a long row of arguments", len(x.Kids))
	}
	row = append(put(named("a"), sym("[")), many(n, put(num(1), sym(",")))...)
	if x := holds(t, "expr", append(row, num(2), sym("]")), 0, len(row)+2, true); tree.Deep(x) != n+2 {
		t.Error("P6.1: a long row of indices", tree.Deep(x))
	}
}

// many is l again and again, n times.
func many(n int, l []api.Token) []api.Token {
	var r []api.Token
	for range n {
		r = append(r, l...)
	}
	return r
}
