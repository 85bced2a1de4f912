package unit_test

import (
	"slices"
	"strconv"
	"strings"
	"testing"

	"separatum/api"
	"separatum/lex"
	"separatum/place"
	"separatum/tree"
	"separatum/unit"
)

// P9.1: kinds, places, names and kids of all nodes.
func TestNodes(t *testing.T) {
	for _, x := range []struct{ s, want string }{
		{"MODULE a; END a.", "(52 1:1 1:a 0 (45 1:11 0: 0 (46 1:11 0: 0)))"},
		{" MODULE ab; BEGIN END ab.\n", "(52 1:2 2:ab 0 (45 1:13 0: 0 (46 1:19 0: 0)))"},
		{"MODULE a; BEGIN b END a.", "(52 1:1 1:a 0 (45 1:11 0: 0 (46 1:17 0: 0 (61 1:17 0: 0 (1 1:17 1:b 0)))))"},
		{"IMPLEMENTATION MODULE a; END a.", "(51 1:1 1:a 0 (45 1:26 0: 0 (46 1:26 0: 0)))"},
		{"DEFINITION MODULE a; END a.", "(50 1:1 1:a 0)"},
		{"\n DEFINITION\nMODULE a; END a.", "(50 2:2 1:a 0)"},
		{"DEFINITION MODULE a; CONST b = 1; TYPE c; VAR d: e; PROCEDURE f; END a.", "(50 1:1 1:a 0 (40 1:28 1:b 0 (5 1:32 0: 1)) (41 1:40 1:c 0 (0 - 0: 0)) (42 1:47 0: 0 (1 1:47 1:d 0) (20 1:50 0: 0 (1 1:50 1:e 0))) (43 1:53 1:f 0 (33 1:53 0: 0 (0 - 0: 0))))"},
		{"DEFINITION MODULE a; IMPORT b, cd; FROM ef IMPORT g; IMPORT h; VAR END a.", "(50 1:1 1:a 0 (53 1:22 0: 0 (1 1:29 1:b 0) (1 1:32 2:cd 0)) (54 1:36 2:ef 0 (1 1:51 1:g 0)) (53 1:54 0: 0 (1 1:61 1:h 0)))"},
		{"MODULE a; FROM b IMPORT c, d; FROM b IMPORT c; IMPORT b, b; END a.", "(52 1:1 1:a 0 (54 1:11 1:b 0 (1 1:25 1:c 0) (1 1:28 1:d 0)) (54 1:31 1:b 0 (1 1:45 1:c 0)) (53 1:48 0: 0 (1 1:55 1:b 0) (1 1:58 1:b 0)) (45 1:61 0: 0 (46 1:61 0: 0)))"},
		{"IMPLEMENTATION MODULE a; IMPORT a; PROCEDURE b; END b; END a.", "(51 1:1 1:a 0 (53 1:26 0: 0 (1 1:33 1:a 0)) (45 1:36 0: 0 (43 1:36 1:b 0 (33 1:36 0: 0 (0 - 0: 0)) (45 1:49 0: 0 (46 1:49 0: 0))) (46 1:56 0: 0)))"},
		{"MODULE a; MODULE b; IMPORT c; END b; END a.", "(52 1:1 1:a 0 (45 1:11 0: 0 (44 1:11 1:b 0 (53 1:21 0: 0 (1 1:28 1:c 0)) (45 1:31 0: 0 (46 1:31 0: 0))) (46 1:38 0: 0)))"},
	} {
		got, at, e := unit.Read(x.s)
		if e != api.OK || at != 0 || tree.Text(got) != x.want {
			t.Errorf("P9.1: %s: %s, %s, %d; want %s", x.s, tree.Text(got), place.Text(at), e, x.want)
		}
		l, _, _ := lex.Scan(x.s)
		if y := holds(t, l, 0, true); tree.Text(y) != x.want {
			t.Errorf("P9.1: %s: %s; want %s", x.s, tree.Text(y), x.want)
		}
		if y := holds(t, l[:len(l)-1:len(l)-1], 0, true); tree.Text(y) != x.want {
			t.Errorf("P9.1: %s, without the end: %s; want %s", x.s, tree.Text(y), x.want)
		}
	}
}

// fault is a source, and which of its tokens can't stand there.
type fault struct {
	s  string
	at int
}

func faults() []fault {
	return []fault{
		{"", 0}, {"a", 0}, {"1", 0}, {";", 0}, {".", 0}, {"END", 0}, {"BEGIN END", 0}, {"PROCEDURE a; END a;", 0}, {"IMPORT a;", 0}, {"module a; end a.", 0}, {"'MODULE' a; END a.", 0}, {"FROM a IMPORT b;", 0}, {"CONST a = 1;", 0},
		{"DEFINITION", 1}, {"IMPLEMENTATION", 1}, {"MODULE", 1}, {"DEFINITION a", 1}, {"IMPLEMENTATION a", 1}, {"DEFINITION DEFINITION MODULE a; END a.", 1}, {"DEFINITION IMPLEMENTATION MODULE a; END a.", 1}, {"IMPLEMENTATION DEFINITION MODULE a; END a.", 1}, {"IMPLEMENTATION IMPLEMENTATION MODULE", 1}, {"MODULE MODULE a;", 1}, {"MODULE DEFINITION a;", 1}, {"MODULE ;", 1}, {"MODULE 'a';", 1}, {"MODULE 1;", 1}, {"MODULE END;", 1}, {"DEFINITION 'MODULE' a;", 1},
		{"DEFINITION MODULE", 2}, {"DEFINITION MODULE ;", 2}, {"IMPLEMENTATION MODULE", 2}, {"IMPLEMENTATION MODULE BEGIN", 2}, {"MODULE a", 2}, {"MODULE a.", 2}, {"MODULE a END a.", 2}, {"MODULE a, b;", 2}, {"MODULE a.b;", 2}, {"MODULE a[1];", 2}, {"MODULE a(b);", 2}, {"MODULE a ';'", 2}, {"DEFINITION MODULE a", 3}, {"IMPLEMENTATION MODULE a", 3}, {"DEFINITION MODULE a: b", 3},
		{"MODULE a;", 3}, {"MODULE a;;", 3}, {"MODULE a; a", 3}, {"MODULE a; a END a.", 3}, {"MODULE a; EXPORT b;", 3}, {"MODULE a; 1", 3}, {"MODULE a; .", 3}, {"MODULE a; IMPLEMENTATION", 3}, {"DEFINITION MODULE a;", 4}, {"DEFINITION MODULE a; MODULE b; END b; END a.", 4}, {"DEFINITION MODULE a; BEGIN END a.", 4}, {"DEFINITION MODULE a; EXPORT b; END a.", 4}, {"DEFINITION MODULE a; EXPORT QUALIFIED b; END a.", 4}, {"DEFINITION MODULE a; ;", 4}, {"IMPLEMENTATION MODULE a;", 4}, {"IMPLEMENTATION MODULE a; EXPORT b;", 4},
		{"MODULE a; IMPORT", 4}, {"MODULE a; IMPORT ;", 4}, {"MODULE a; IMPORT ,", 4}, {"MODULE a; IMPORT 'b';", 4}, {"MODULE a; IMPORT FROM", 4}, {"MODULE a; IMPORT b", 5}, {"MODULE a; IMPORT b END", 5}, {"MODULE a; IMPORT b.c;", 5}, {"MODULE a; IMPORT b c;", 5}, {"MODULE a; IMPORT b IMPORT", 5}, {"MODULE a; IMPORT b FROM c;", 5}, {"MODULE a; IMPORT b,", 6}, {"MODULE a; IMPORT b,;", 6}, {"MODULE a; IMPORT b,,c;", 6}, {"MODULE a; IMPORT b;", 6}, {"MODULE a; IMPORT b; c", 6}, {"MODULE a; IMPORT b; ;", 6}, {"MODULE a; IMPORT b; EXPORT", 6}, {"MODULE a; IMPORT b := c;", 5}, {"MODULE a; IMPORT b: c;", 5},
		{"MODULE a; FROM", 4}, {"MODULE a; FROM IMPORT b;", 4}, {"MODULE a; FROM ;", 4}, {"MODULE a; FROM 'b' IMPORT c;", 4}, {"MODULE a; FROM b", 5}, {"MODULE a; FROM b;", 5}, {"MODULE a; FROM b, c IMPORT d;", 5}, {"MODULE a; FROM b.c IMPORT d;", 5}, {"MODULE a; FROM b FROM c", 5}, {"MODULE a; FROM b c", 5}, {"MODULE a; FROM b EXPORT c;", 5}, {"MODULE a; FROM b IMPORT", 6}, {"MODULE a; FROM b IMPORT ;", 6}, {"MODULE a; FROM b IMPORT *;", 6}, {"MODULE a; FROM b IMPORT c", 7}, {"MODULE a; FROM b IMPORT c d", 7}, {"MODULE a; FROM b IMPORT c.d;", 7}, {"MODULE a; FROM b IMPORT c,", 8}, {"MODULE a; FROM b IMPORT c,;", 8}, {"MODULE a; FROM b IMPORT c;", 8}, {"MODULE a; FROM b IMPORT c; FROM", 9},
		{"MODULE a; CONST b = 1; IMPORT c;", 8}, {"MODULE a; VAR IMPORT c;", 4}, {"MODULE a; VAR FROM c IMPORT d;", 4}, {"DEFINITION MODULE a; TYPE b; IMPORT c;", 7}, {"DEFINITION MODULE a; TYPE b; FROM c IMPORT d;", 7}, {"MODULE a; PROCEDURE b; IMPORT c; END b; END a.", 6}, {"MODULE a; MODULE b; FROM c IMPORT d; END b; END a.", 6}, {"MODULE a; BEGIN IMPORT b; END a.", 4},
		{"MODULE a; TYPE b; END a.", 5}, {"IMPLEMENTATION MODULE a; TYPE b; END a.", 6}, {"MODULE a; PROCEDURE b; END a.", 7}, {"IMPLEMENTATION MODULE a; PROCEDURE b; END a.", 8}, {"DEFINITION MODULE a; PROCEDURE b; END b; END a.", 8}, {"DEFINITION MODULE a; PROCEDURE b; BEGIN END b; END a.", 7}, {"DEFINITION MODULE a; PROCEDURE b; VAR c: d; BEGIN", 12}, {"DEFINITION MODULE a; VAR b", 6},
		{"MODULE a; BEGIN", 4}, {"MODULE a; BEGIN b", 5}, {"MODULE a; BEGIN b; a.", 8}, {"MODULE a; BEGIN LOOP END a.", 6}, {"MODULE a; VAR b: c; BEGIN b := END a.", 11}, {"MODULE a; BEGIN BEGIN END END a.", 4}, {"MODULE a; BEGIN ELSE END a.", 4},
		{"MODULE a; END", 4}, {"MODULE a; END.", 4}, {"MODULE a; END;", 4}, {"MODULE a; END b.", 4}, {"MODULE a; END A.", 4}, {"MODULE a; END aa.", 4}, {"MODULE aa; END a.", 4}, {"MODULE a; END 'a'.", 4}, {"MODULE a; END END a.", 4}, {"MODULE a; IMPORT b; END b.", 7}, {"IMPLEMENTATION MODULE a; END b.", 5}, {"DEFINITION MODULE a; END", 5}, {"DEFINITION MODULE a; END b.", 5}, {"DEFINITION MODULE a; END .", 5}, {"DEFINITION MODULE a; PROCEDURE b; END b.", 8}, {"MODULE a; PROCEDURE b; END b; END b.", 10}, {"MODULE a; FROM b IMPORT c; END c.", 9},
		{"MODULE a; END a", 5}, {"MODULE a; END a;", 5}, {"MODULE a; END a END", 5}, {"MODULE a; END a a.", 5}, {"MODULE a; END a, b.", 5}, {"MODULE a; END a..", 5}, {"MODULE a; END a '.'", 5}, {"DEFINITION MODULE a; END a", 6}, {"DEFINITION MODULE a; END a;", 6}, {"IMPLEMENTATION MODULE a; END a;", 6},
		{"MODULE a; END a. .", 6}, {"MODULE a; END a.;", 6}, {"MODULE a; END a. a", 6}, {"MODULE a; END a.a", 6}, {"MODULE a; END a. 1", 6}, {"MODULE a; END a. END", 6}, {"MODULE a; END a. MODULE b; END b.", 6}, {"DEFINITION MODULE a; END a. IMPLEMENTATION MODULE a; END a.", 7}, {"IMPLEMENTATION MODULE a; END a. 'a'", 7},
	}
}

// P9.1, P9.2: errors stand at the first token that can't stand there, whatever stands behind it; and in the source where that token does.
func TestErrors(t *testing.T) {
	for _, x := range faults() {
		l, _, e := lex.Scan(x.s)
		if e != api.OK {
			t.Fatalf("%q is no source: %d", x.s, e)
		}
		holds(t, l, x.at, false)
		holds(t, l[:len(l)-1:len(l)-1], x.at, false)
		if x.at < len(l)-1 {
			holds(t, slices.Concat(l[:x.at+1], scanned("; END a . MODULE")), x.at, false)
		}
		got, at, e := unit.Read(x.s)
		if got != nil || at != l[x.at].Pos || e != api.ErrSyntax {
			t.Errorf("P9.1: %s: %s, %d; want %s", x.s, place.Text(at), e, place.Text(l[x.at].Pos))
		}
		if next, ok := read(chapters).reach(l); ok || next != x.at {
			t.Errorf("%s: the grammar has the error at %d", x.s, next)
		}
	}
}

// P9.1: what lex has against a source is told, at its place, even if the grammar has something against what stands ahead of it.
func TestReadErrors(t *testing.T) {
	long := strings.Repeat("x", api.MaxName+1)
	for _, x := range []struct {
		s    string
		want complex128
		e    api.Errno
	}{
		{"", place.Of(1, 1), api.ErrSyntax},
		{" \n\n ", place.Of(3, 2), api.ErrSyntax},
		{"(* MODULE a; END a. *)", place.Of(1, 23), api.ErrSyntax},
		{"MODULE a;\nEND b.", place.Of(2, 5), api.ErrSyntax},
		{"MODULE a;\nEND\n b.\n9B", place.Of(4, 1), api.ErrNumber},
		{"MODULE a; END a. 9B", place.Of(1, 18), api.ErrNumber},
		{"MODULE a; END a. %", place.Of(1, 18), api.ErrChar},
		{"END\n\n %", place.Of(3, 2), api.ErrChar},
		{"MODULE a; END a. (*", place.Of(1, 18), api.ErrComment},
		{"; 'a", place.Of(1, 3), api.ErrString},
		{"; 'a % (*", place.Of(1, 3), api.ErrString},
		{"MODULE " + long + "; END " + long + ".", place.Of(1, 8), api.ErrLong},
		{"MODULE a; END a." + strings.Repeat(" ", api.MaxSource), place.Begin(), api.ErrLong},
		{strings.Repeat("%", api.MaxSource+1), place.Begin(), api.ErrLong},
		{"MODULE a; CONST b = 65536; END b.", place.Of(1, 21), api.ErrNumber},
		{"MODULE a; CONST b = 400C; END b.", place.Of(1, 21), api.ErrNumber},
	} {
		got, at, e := unit.Read(x.s)
		if got != nil || at != x.want || e != x.e {
			t.Errorf("P9.1: %q: %s, %d; want %s, %d", x.s[:min(len(x.s), 60)], place.Text(at), e, place.Text(x.want), x.e)
		}
	}
}

// P9.1: the longest source is read as the others, and so is the longest name.
func TestAtTheLimits(t *testing.T) {
	s := strings.Repeat("x", api.MaxName)
	s = "MODULE " + s + "; END " + s + "."
	for _, whole := range []string{s + strings.Repeat(" ", api.MaxSource-len(s)), strings.Repeat("\n", api.MaxSource-len(s)) + s} {
		x, at, e := unit.Read(whole)
		if e != api.OK || at != 0 || len(x.Name) != api.MaxName || x.Pos != ended(whole[:strings.Index(whole, "M")]) {
			t.Errorf("P9.1: %s, %d", place.Text(at), e)
		}
	}
}

// P9.1: the modules that are imported, in order, each once; by a local module none.
func TestImports(t *testing.T) {
	for _, x := range []struct{ s, want string }{
		{"MODULE m; END m.", ""},
		{"MODULE m; IMPORT a; END m.", "a"},
		{"MODULE m; IMPORT b, a; END m.", "b a"},
		{"MODULE m; IMPORT a, a; END m.", "a"},
		{"MODULE m; IMPORT b, a, b; IMPORT a, c, b; END m.", "b a c"},
		{"IMPLEMENTATION MODULE m; FROM b IMPORT a; END m.", "b"},
		{"IMPLEMENTATION MODULE m; FROM b IMPORT a; IMPORT a; FROM b IMPORT c; END m.", "b a"},
		{"DEFINITION MODULE m; FROM c IMPORT a; IMPORT c, b; FROM a IMPORT c; END m.", "c b a"},
		{"DEFINITION MODULE m; IMPORT A, a, aa; END m.", "A a aa"},
		{"MODULE m; IMPORT m; FROM m IMPORT m; END m.", "m"},
		{"MODULE m; MODULE n; IMPORT a; END n; END m.", ""},
		{"MODULE m; IMPORT b; MODULE n; IMPORT a; EXPORT c; END n; END m.", "b"},
		{"MODULE m; VAR a: b.c; BEGIN d.e END m.", ""},
	} {
		y, at, e := unit.Read(x.s)
		if e != api.OK {
			t.Fatalf("%s: %s, %d", x.s, place.Text(at), e)
		}
		if got := unit.Imports(y); strings.Join(got, " ") != x.want {
			t.Errorf("P9.1: %s imports %v; want %s", x.s, got, x.want)
		}
		before := tree.Text(y)
		l := unit.Imports(y)
		clear(l[:cap(l)])
		if got := unit.Imports(y); strings.Join(got, " ") != x.want || tree.Text(y) != before {
			t.Errorf("R5: %s: the tree hangs on what was answered", x.s)
		}
	}
}

// P9.1, R1: trees that are no units import nothing, nor does what is no import in one that nobody read.
func TestImportsOfOthers(t *testing.T) {
	if l := unit.Imports(nil); len(l) != 0 {
		t.Error("P9.1: of no tree", l)
	}
	name := tree.New(api.NodeName, 0, "a", 0)
	from := tree.New(api.NodeFrom, 0, "b", 0, name)
	imports := tree.New(api.NodeImport, 0, "c", 0, name, tree.New(api.NodeName, 0, "d", 0))
	for kind := range 256 {
		unitKind := kind == int(api.NodeDef) || kind == int(api.NodeImpl) || kind == int(api.NodeProg)
		x := &api.Node{Kind: uint8(kind), Name: "e", Kids: []*api.Node{nil, imports, tree.New(api.NodeExport, 0, "f", 0, name), from, name, nil, tree.New(api.NodeMod, 0, "g", 0, imports)}}
		want := ""
		if unitKind {
			want = "a d b"
		}
		if got := strings.Join(unit.Imports(x), " "); got != want {
			t.Errorf("P9.1: of a node of kind %d: %s; want %s", kind, got, want)
		}
	}
	x := &api.Node{Kind: api.NodeProg, Kids: []*api.Node{{Kind: api.NodeImport, Kids: []*api.Node{nil, name, nil}}, {Kind: api.NodeFrom}}}
	x.Kids = append(x.Kids, x)
	if got := unit.Imports(x); !slices.Equal(got, []string{"a", ""}) {
		t.Errorf("P9.1: of a tree that nobody read: %q", got)
	}
}

// P9.1: a string, or a name, is none of the symbols and the words that have its text, nor is a token of another kind.
func TestKinds(t *testing.T) {
	for _, s := range []string{"MODULE a; IMPORT b, c; FROM d IMPORT e; VAR f: g; BEGIN h END a.", "IMPLEMENTATION MODULE a; END a.", "DEFINITION MODULE a; FROM b IMPORT c; TYPE d; PROCEDURE e; END a."} {
		l, _, _ := lex.Scan(s)
		for i := range l {
			for _, kind := range []uint8{api.TokEnd, api.TokName, api.TokNum, api.TokChar, api.TokStr} {
				spoiled := slices.Clone(l)
				spoiled[i].Kind = kind
				if kind != api.TokName && kind != api.TokStr {
					spoiled[i].Text = ""
				}
				at, ok := read(chapters).reach(spoiled)
				holds(t, spoiled, at, ok)
			}
		}
	}
}

// P9.1: the name at the end is the unit's, whatever else has a name.
func TestClosingName(t *testing.T) {
	for _, begin := range []string{"MODULE", "IMPLEMENTATION MODULE", "DEFINITION MODULE"} {
		l := scanned(begin + " abc; IMPORT x; FROM y IMPORT z; VAR v: w; END abc.")
		n := len(l) - 2
		holds(t, l, 0, true)
		for _, other := range []string{"x", "y", "z", "v", "w", "ab", "abcd", "ABC", "Abc", "bc"} {
			spoiled := slices.Clone(l)
			spoiled[n].Text = other
			holds(t, spoiled, n, false)
		}
	}
}

// R5, R6: a row is neither changed nor kept, no two answers share anything, and the same row tells the same again.
func TestNothingShared(t *testing.T) {
	for _, s := range []string{"DEFINITION MODULE a; IMPORT b, c; FROM d IMPORT e; CONST f = g + 1; TYPE h; PROCEDURE i(VAR j: k): l; END a.", "MODULE a; IMPORT b, c; FROM d IMPORT e; TYPE f = (g, h); PROCEDURE i; BEGIN j := k END i; BEGIN l(m) END a."} {
		l, again := scanned(s), scanned(s)
		x, y := holds(t, l, 0, true), holds(t, l, 0, true)
		if !slices.Equal(l, again) {
			t.Fatal("R5: the row is changed")
		}
		want := tree.Text(x)
		seen := map[*api.Node]bool{}
		for work := []*api.Node{y}; len(work) > 0; work = work[1:] {
			if seen[work[0]] {
				t.Fatal("R5: a node that stands there twice", tree.Text(work[0]))
			}
			seen[work[0]] = true
			work = append(work, work[0].Kids...)
			work[0].Kind, work[0].Name = 200, "changed"
			clear(work[0].Kids[:cap(work[0].Kids)])
		}
		clear(l)
		if tree.Text(x) != want {
			t.Error("R5: an answer hangs on another one, or on the row")
		}
		if z := holds(t, again, 0, true); tree.Text(z) != want {
			t.Error("R6: another answer")
		}
	}
}

// R1: no row is too deep, and none too long.
func TestDeep(t *testing.T) {
	t.Parallel()
	const n = 1 << 15
	for _, x := range []struct {
		ahead, again, mid, behind, end string
		deep                           int
	}{
		{"MODULE m;", "PROCEDURE a;", "", "END a;", "END m.", 2*n + 3},
		{"IMPLEMENTATION MODULE m; IMPORT b;", "MODULE a;", "", "END a;", "END m.", 2*n + 3},
		{"DEFINITION MODULE m; TYPE a =", "POINTER TO", "b", "", "; END m.", n + 4},
		{"MODULE m; BEGIN", "LOOP", "", "END", "END m.", 2*n + 3},
		{"MODULE m;", "IMPORT a;", "", "", "END m.", 3},
		{"MODULE m; IMPORT a", ", b", "", "", "; END m.", 3},
		{"DEFINITION MODULE m;", "FROM a IMPORT b, c;", "", "", "END m.", 3},
		{"DEFINITION MODULE m;", "PROCEDURE a; VAR", "", "", "END m.", 4},
	} {
		l := slices.Concat(scanned(x.ahead), slices.Repeat(scanned(x.again), n), scanned(x.mid), slices.Repeat(scanned(x.behind), n), scanned(x.end))
		if deep := tree.Deep(holds(t, l, 0, true)); deep != x.deep {
			t.Errorf("R1: %s %s ..: %d deep, want %d", x.ahead, x.again, deep, x.deep)
		}
		cut := len(l) - 2
		holds(t, l[:cut:cut], cut, false)
	}
	holds(t, slices.Repeat(scanned("MODULE a;"), n), 3*n, false)
}

// P9.1: of many imports each stands once, and in order.
func TestManyImports(t *testing.T) {
	t.Parallel()
	const n = 1 << 12
	x := tree.New(api.NodeImport, 0, "", 0)
	for i := range 2 * n {
		x.Kids = append(x.Kids, tree.New(api.NodeName, 0, "m"+strconv.Itoa(i*7%n), 0))
	}
	l := unit.Imports(tree.New(api.NodeProg, 0, "a", 0, x, x))
	if len(l) != n {
		t.Fatal("P9.1: how many", len(l))
	}
	for i, s := range l {
		if s != "m"+strconv.Itoa(i*7%n) {
			t.Fatal("P9.1: in order", i, s)
		}
	}
}
