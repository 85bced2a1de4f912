package stmt

import (
	"math"
	"runtime/debug"
	"slices"
	"strings"
	"testing"

	"separatum/api"
	"separatum/lex"
	"separatum/tree"
)

// scanned is the tokens of s, with the end.
func scanned(t *testing.T, s string) []api.Token {
	t.Helper()
	l, _, e := lex.Scan(s)
	if e != api.OK {
		t.Fatalf("%q is no source: %d", s, e)
	}
	return l
}

// P7.1: kinds, places, names and kids of all nodes.
func TestNodes(t *testing.T) {
	for _, x := range []struct{ s, want string }{
		{"", "(46 1:1 0: 0)"},
		{"  ;", "(46 1:3 0: 0)"},
		{" a.b[1] := c", "(46 1:2 0: 0 (60 1:9 0: 0 (3 1:5 0: 0 (2 1:3 1:b 0 (1 1:2 1:a 0)) (5 1:6 0: 1)) (1 1:12 1:c 0)))"},
		{" p^", "(46 1:2 0: 0 (61 1:2 0: 0 (4 1:3 0: 0 (1 1:2 1:p 0))))"},
		{" f", "(46 1:2 0: 0 (61 1:2 0: 0 (1 1:2 1:f 0)))"},
		{" f()", "(46 1:2 0: 0 (61 1:2 0: 0 (1 1:2 1:f 0)))"},
		{"m.f(1, a+b)", "(46 1:1 0: 0 (61 1:1 0: 0 (2 1:2 1:f 0 (1 1:1 1:m 0)) (5 1:5 0: 1) (11 1:9 1:+ 0 (1 1:8 1:a 0) (1 1:10 1:b 0))))"},
		{"a := 1;; f(x)", "(46 1:1 0: 0 (60 1:3 0: 0 (1 1:1 1:a 0) (5 1:6 0: 1)) (61 1:10 0: 0 (1 1:10 1:f 0) (1 1:12 1:x 0)))"},
		{"; ;a;", "(46 1:1 0: 0 (61 1:4 0: 0 (1 1:4 1:a 0)))"},
		{"IF a THEN END", "(46 1:1 0: 0 (62 1:1 0: 0 (1 1:4 1:a 0) (46 1:11 0: 0)))"},
		{"IF a THEN b ELSE END", "(46 1:1 0: 0 (62 1:1 0: 0 (1 1:4 1:a 0) (46 1:11 0: 0 (61 1:11 0: 0 (1 1:11 1:b 0))) (46 1:18 0: 0)))"},
		{"IF a THEN ELSIF b THEN;ELSE;c END", "(46 1:1 0: 0 (62 1:1 0: 0 (1 1:4 1:a 0) (46 1:11 0: 0) (1 1:17 1:b 0) (46 1:23 0: 0) (46 1:28 0: 0 (61 1:29 0: 0 (1 1:29 1:c 0)))))"},
		{"IF a THEN ELSIF b THEN END", "(46 1:1 0: 0 (62 1:1 0: 0 (1 1:4 1:a 0) (46 1:11 0: 0) (1 1:17 1:b 0) (46 1:24 0: 0)))"},
		{"CASE a OF END", "(46 1:1 0: 0 (63 1:1 0: 0 (1 1:6 1:a 0)))"},
		{"CASE a OF ELSE END", "(46 1:1 0: 0 (63 1:1 0: 0 (1 1:6 1:a 0) (30 1:11 0: 0 (46 1:16 0: 0))))"},
		{"CASE a OF | 1, 2..3: b | | 4: | ELSE c END", "(46 1:1 0: 0 (63 1:1 0: 0 (1 1:6 1:a 0) (28 1:13 0: 0 (29 1:13 0: 0 (5 1:13 0: 1) (9 1:16 0: 0 (5 1:16 0: 2) (5 1:19 0: 3))) (46 1:22 0: 0 (61 1:22 0: 0 (1 1:22 1:b 0)))) (28 1:28 0: 0 (29 1:28 0: 0 (5 1:28 0: 4)) (46 1:31 0: 0)) (30 1:33 0: 0 (46 1:38 0: 0 (61 1:38 0: 0 (1 1:38 1:c 0))))))"},
		{"CASE a OF (1): END", "(46 1:1 0: 0 (63 1:1 0: 0 (1 1:6 1:a 0) (28 1:11 0: 0 (29 1:11 0: 0 (5 1:12 0: 1)) (46 1:16 0: 0))))"},
		{"WHILE a DO b END", "(46 1:1 0: 0 (64 1:1 0: 0 (1 1:7 1:a 0) (46 1:12 0: 0 (61 1:12 0: 0 (1 1:12 1:b 0)))))"},
		{"REPEAT UNTIL a", "(46 1:1 0: 0 (65 1:1 0: 0 (46 1:8 0: 0) (1 1:14 1:a 0)))"},
		{"LOOP EXIT END", "(46 1:1 0: 0 (66 1:1 0: 0 (46 1:6 0: 0 (67 1:6 0: 0))))"},
		{"FOR ij := a TO b DO END", "(46 1:1 0: 0 (68 1:1 2:ij 0 (1 1:11 1:a 0) (1 1:16 1:b 0) (0 - 0: 0) (46 1:21 0: 0)))"},
		{"FOR i := 1 TO 2 BY -3 DO END", "(46 1:1 0: 0 (68 1:1 1:i 0 (5 1:10 0: 1) (5 1:15 0: 2) (12 1:20 1:- 0 (5 1:21 0: 3)) (46 1:26 0: 0)))"},
		{"WITH a.b DO c END", "(46 1:1 0: 0 (69 1:1 0: 0 (2 1:7 1:b 0 (1 1:6 1:a 0)) (46 1:13 0: 0 (61 1:13 0: 0 (1 1:13 1:c 0)))))"},
		{"RETURN", "(46 1:1 0: 0 (70 1:1 0: 0))"},
		{"RETURN;RETURN -a", "(46 1:1 0: 0 (70 1:1 0: 0) (70 1:8 0: 0 (12 1:15 1:- 0 (1 1:16 1:a 0))))"},
	} {
		l := scanned(t, x.s)
		if s := tree.Text(holds(t, l, 0, len(l)-1, true)); s != x.want {
			t.Errorf("P7.1: %q: %s; want %s", x.s, s, x.want)
		}
	}
}

// P7.1: a body reaches up to the first token that is neither ; nor begins a statement behind the beginning, or a ;.
func TestReaches(t *testing.T) {
	for _, x := range []struct {
		s    string
		next int
		want string
	}{
		{"END", 0, "(46 1:1 0: 0)"}, {"1", 0, "(46 1:1 0: 0)"}, {"(a)", 0, "(46 1:1 0: 0)"}, {"| a", 0, "(46 1:1 0: 0)"}, {":= a", 0, "(46 1:1 0: 0)"}, {"'a'", 0, "(46 1:1 0: 0)"},
		{"THEN", 0, "(46 1:1 0: 0)"}, {"ELSE a", 0, "(46 1:1 0: 0)"}, {"BEGIN a", 0, "(46 1:1 0: 0)"}, {"MODULE a", 0, "(46 1:1 0: 0)"},
		{"; END", 1, "(46 1:1 0: 0)"}, {";;; ELSE", 3, "(46 1:1 0: 0)"},
		{"a b", 1, "(46 1:1 0: 0 (61 1:1 0: 0 (1 1:1 1:a 0)))"},
		{"a EXIT", 1, "(46 1:1 0: 0 (61 1:1 0: 0 (1 1:1 1:a 0)))"},
		{"a = b", 1, "(46 1:1 0: 0 (61 1:1 0: 0 (1 1:1 1:a 0)))"},
		{"a {1}", 1, "(46 1:1 0: 0 (61 1:1 0: 0 (1 1:1 1:a 0)))"},
		{"a : b", 1, "(46 1:1 0: 0 (61 1:1 0: 0 (1 1:1 1:a 0)))"},
		{"a; 1", 2, "(46 1:1 0: 0 (61 1:1 0: 0 (1 1:1 1:a 0)))"},
		{"EXIT EXIT", 1, "(46 1:1 0: 0 (67 1:1 0: 0))"},
		{"EXIT.", 1, "(46 1:1 0: 0 (67 1:1 0: 0))"},
		{"RETURN END a", 1, "(46 1:1 0: 0 (70 1:1 0: 0))"},
		{"RETURN a END", 2, "(46 1:1 0: 0 (70 1:1 0: 0 (1 1:8 1:a 0)))"},
		{"f()()", 3, "(46 1:1 0: 0 (61 1:1 0: 0 (1 1:1 1:f 0)))"},
		{"f() := 1", 3, "(46 1:1 0: 0 (61 1:1 0: 0 (1 1:1 1:f 0)))"},
		{"f().a", 3, "(46 1:1 0: 0 (61 1:1 0: 0 (1 1:1 1:f 0)))"},
		{"a := b := c", 3, "(46 1:1 0: 0 (60 1:3 0: 0 (1 1:1 1:a 0) (1 1:6 1:b 0)))"},
		{"LOOP END LOOP END", 2, "(46 1:1 0: 0 (66 1:1 0: 0 (46 1:6 0: 0)))"},
		{"REPEAT UNTIL a UNTIL b", 3, "(46 1:1 0: 0 (65 1:1 0: 0 (46 1:8 0: 0) (1 1:14 1:a 0)))"},
	} {
		if s := tree.Text(holds(t, scanned(t, x.s), 0, x.next, true)); s != x.want {
			t.Errorf("P7.1: %q: %s; want %s", x.s, s, x.want)
		}
	}
}

// P7.1: errors stand at the first token that can't stand there.
func TestErrors(t *testing.T) {
	for _, x := range []struct {
		s  string
		at int
	}{
		{"a.", 2}, {"a.1", 2}, {"a[", 2}, {"a[1;", 3}, {"a^.END", 3}, {"a :=", 2}, {"a := ;", 2}, {"a := END", 2}, {"a := b +", 4}, {"a := (b", 4}, {"; a := :=", 3},
		{"f(", 2}, {"f(;", 2}, {"f(a", 3}, {"f(a;", 3}, {"f(a,", 4}, {"f(a,)", 4}, {"f(,a)", 2}, {"f(a b)", 3}, {"f(a]", 3}, {"f(a..b)", 3},
		{"IF", 1}, {"IF THEN", 1}, {"IF a", 2}, {"IF a DO", 2}, {"IF a THEN", 3}, {"IF a THEN b", 4}, {"IF a THEN b c", 4}, {"IF a THEN ;", 4}, {"IF a THEN UNTIL", 3}, {"IF a THEN |", 3},
		{"IF a THEN ELSE", 4}, {"IF a THEN ELSE ELSE", 4}, {"IF a THEN ELSE ELSIF", 4}, {"IF a THEN ELSIF", 4}, {"IF a THEN ELSIF THEN", 4}, {"IF a THEN ELSIF b", 5}, {"IF a THEN ELSIF b ELSE", 5}, {"IF a THEN ELSIF b THEN", 6}, {"IF a := b", 2},
		{"CASE", 1}, {"CASE OF", 1}, {"CASE a", 2}, {"CASE a DO", 2}, {"CASE a OF", 3}, {"CASE a OF ;", 3}, {"CASE a OF |", 4}, {"CASE a OF | ;", 4}, {"CASE a OF :", 3}, {"CASE a OF 1", 4}, {"CASE a OF 1 END", 4}, {"CASE a OF 1,:", 5},
		{"CASE a OF 1..:", 5}, {"CASE a OF 1:", 5}, {"CASE a OF 1: b", 6}, {"CASE a OF 1: 2: b", 5}, {"CASE a OF 1: b 2", 6}, {"CASE a OF 1: b; 2", 7}, {"CASE a OF 1: ELSIF", 5}, {"CASE a OF ELSE", 4}, {"CASE a OF ELSE |", 4}, {"CASE a OF ELSE 1:", 4}, {"CASE a OF ELSE ELSE", 4},
		{"CASE a OF 1: UNTIL", 5}, {"CASE a OF IF", 3}, {"CASE a OF 'a' := 1", 4},
		{"WHILE", 1}, {"WHILE DO", 1}, {"WHILE a", 2}, {"WHILE a THEN", 2}, {"WHILE a DO", 3}, {"WHILE a DO b", 4}, {"WHILE a DO ELSE", 3}, {"WHILE a DO UNTIL", 3},
		{"REPEAT", 1}, {"REPEAT END", 1}, {"REPEAT a", 2}, {"REPEAT a END", 2}, {"REPEAT UNTIL", 2}, {"REPEAT UNTIL ;", 2}, {"REPEAT a; b UNTIL (", 6},
		{"LOOP", 1}, {"LOOP UNTIL", 1}, {"LOOP EXIT", 2}, {"LOOP EXIT EXIT", 2}, {"LOOP ELSE", 1}, {"LOOP DO", 1},
		{"FOR", 1}, {"FOR 1", 1}, {"FOR TO", 1}, {"FOR a", 2}, {"FOR a.b", 2}, {"FOR a[1]", 2}, {"FOR a = 1", 2}, {"FOR a :=", 3}, {"FOR a := TO", 3}, {"FOR a := 1", 4}, {"FOR a := 1 DO", 4}, {"FOR a := 1 BY", 4}, {"FOR a := 1 TO", 5}, {"FOR a := 1 TO DO", 5},
		{"FOR a := 1 TO 2", 6}, {"FOR a := 1 TO 2 END", 6}, {"FOR a := 1 TO 2 BY", 7}, {"FOR a := 1 TO 2 BY DO", 7}, {"FOR a := 1 TO 2 BY 3", 8}, {"FOR a := 1 TO 2 BY 3 BY", 8}, {"FOR a := 1 TO 2 DO", 7}, {"FOR a := 1 TO 2 DO b", 8}, {"FOR a := 1 TO 2 DO ELSE", 7}, {"FOR a := 1 TO 2 DO b BY", 8},
		{"WITH", 1}, {"WITH DO", 1}, {"WITH 1", 1}, {"WITH (a)", 1}, {"WITH a", 2}, {"WITH a(", 2}, {"WITH a + b", 2}, {"WITH a,", 2}, {"WITH a.DO", 3}, {"WITH a DO", 3}, {"WITH a DO b", 4}, {"WITH a DO UNTIL", 3},
		{"RETURN )", 1}, {"RETURN DO", 1}, {"RETURN THEN", 1}, {"RETURN OF", 1}, {"RETURN TO", 1}, {"RETURN IF", 1}, {"RETURN EXIT", 1}, {"RETURN RETURN", 1}, {"RETURN .", 1}, {"RETURN :", 1}, {"RETURN := a", 1}, {"RETURN ,", 1}, {"RETURN (", 2}, {"RETURN a +", 3}, {"RETURN *", 1},
		{"LOOP RETURN END; RETURN DO", 5}, {"IF a THEN LOOP WHILE b DO c END END", 10}, {"IF a THEN LOOP WHILE b DO c := END END END", 9},
	} {
		l := scanned(t, x.s)
		holds(t, l, 0, x.at, false)
		holds(t, l[:len(l)-1:len(l)-1], 0, x.at, false)
		if at := len(l) - 1; x.at < at {
			l = slices.Concat(l[:x.at+1], tokens("a END DO ) 1 ; THEN"))
			holds(t, l, 0, x.at, false)
		}
	}
}

// P7.1: a RETURN has an expression, unless one of a few tokens, or the end, stands behind it.
func TestReturn(t *testing.T) {
	for _, one := range all() {
		l := put(reserved("RETURN"), one, named("b"), symbol(")"))
		switch class(one) {
		case ";":
			holds(t, l, 0, 3, true)
		case "END", "ELSE", "ELSIF", "UNTIL", "bar", "end":
			if x := holds(t, l, 0, 1, true); len(x.Kids) != 1 || len(x.Kids[0].Kids) != 0 {
				t.Error("P7.1: a RETURN alone", class(one), tree.Text(x))
			}
		case "name", "number", "character", "string":
			if x := holds(t, l, 0, 2, true); len(x.Kids[0].Kids) != 1 {
				t.Error("P7.1: a RETURN with an expression", class(one), tree.Text(x))
			}
		case "NOT", "+", "-":
			holds(t, l, 0, 3, true)
		case "(":
			holds(t, l, 0, 4, true)
		case "{":
			holds(t, l, 0, 3, false)
		default:
			holds(t, l, 0, 1, false)
		}
	}
	for _, s := range strings.Fields("END ELSE ELSIF UNTIL ; |") {
		if x := holds(t, put(reserved("RETURN"), str(s), reserved("END")), 0, 2, true); len(x.Kids[0].Kids) != 1 {
			t.Error("P7.1: a RETURN with a string", s, tree.Text(x))
		}
	}
}

// P7.1: a place below 0, at the row's end, and behind it: there stands the end, again and again.
func TestPlaces(t *testing.T) {
	l := scanned(t, "a := b; ")
	for _, row := range [][]api.Token{nil, {}, l[:0], l, l[:3:3]} {
		for _, at := range []int{-1, -2, -1000, math.MinInt} {
			holds(t, row, at, 0, false)
		}
		for _, at := range []int{len(row), len(row) + 1, len(row) + 1000, math.MaxInt - 1, math.MaxInt} {
			if x := holds(t, row, at, at, true); !tree.Same(x, tree.New(api.NodeBody, 0, "", 0)) || x.Pos != 0 {
				t.Error("P7.1: behind the end", at, tree.Text(x))
			}
		}
	}
	if x := holds(t, l, 4, 4, true); tree.Text(x) != "(46 1:9 0: 0)" {
		t.Error("P7.1: at the end", tree.Text(x))
	}
	holds(t, l, 0, 4, true)
	holds(t, l, 1, 1, true)
	holds(t, l, 2, 4, true)
	holds(t, l, 3, 4, true)
	holds(t, l[:3:3], 2, 3, true)
	holds(t, append(scanned(t, "a;"), scanned(t, "b")...), 0, 2, true)
	holds(t, append(scanned(t, "a :="), scanned(t, "b")...), 0, 2, false)
	holds(t, append(scanned(t, "RETURN"), scanned(t, "b")...), 0, 1, true)
}

// P7.1: it is the kind of a token that tells, not its text alone.
func TestKinds(t *testing.T) {
	first := strings.Fields("IF CASE WHILE REPEAT LOOP EXIT FOR WITH RETURN")
	for _, s := range append(first, "NOT", ";", "END") {
		for _, kind := range []uint8{api.TokEnd, api.TokNum, api.TokChar, api.TokStr, 7, 255} {
			holds(t, []api.Token{{Kind: kind, Text: s}}, 0, 0, true)
			holds(t, append(put(named("a"), symbol(";")), api.Token{Kind: kind, Text: s}, named("b")), 0, 2, true)
			holds(t, append(put(named("a")), api.Token{Kind: kind, Text: s}, named("b")), 0, 1, true)
		}
		holds(t, put(named(s), symbol(":="), named(s)), 0, 3, true)
	}
	for _, s := range append(first, "a", ":", "") {
		holds(t, put(symbol(s), named("a")), 0, 0, true)
	}
	for _, s := range []string{"a", "if", "If", "", ";", ":=", "END"} {
		holds(t, put(reserved(s), named("a")), 0, 0, true)
	}
	for _, one := range []api.Token{named(":="), str(":="), reserved(":="), symbol("="), named("("), str("("), reserved("(")} {
		holds(t, put(named("a"), one, named("b")), 0, 1, true)
	}
	if x := holds(t, put(named("IF"), symbol(";"), named("END"), symbol(";"), named(";")), 0, 5, true); len(x.Kids) != 3 {
		t.Error("P7.1: names with the texts of others", tree.Text(x))
	}
	for _, s := range []string{
		"IF a THEN b ELSIF c THEN d ELSE e END", "CASE a OF 1: b | 2: c ELSE d END", "WHILE a DO b END", "REPEAT a UNTIL b", "LOOP a END", "FOR a := 1 TO 2 BY 3 DO b END", "WITH a DO b END", "f(a, b)", "a := b",
	} {
		l := scanned(t, s)
		holds(t, l, 0, len(l)-1, true)
		for i := range l[:len(l)-1] {
			for kind := range uint8(8) {
				spoiled := slices.Clone(l)
				spoiled[i].Kind = kind
				c := opened(rules(chapters)).through(spoiled)
				holds(t, spoiled, 0, len(c.row), c.complete(class(spoiled[len(c.row)])))
			}
		}
	}
}

// R5, R6: a row is neither changed nor kept, no two answers share anything, and the same row tells the same again.
func TestNothingShared(t *testing.T) {
	const s = "IF a THEN b := c[1]; ELSIF f(2) THEN FOR i := 1 TO n DO g(i, {j}) END ELSE CASE d OF 1..2: LOOP EXIT END | ELSE WITH p^ DO RETURN x END END END; REPEAT h UNTIL k; WHILE NOT l DO END"
	l, again := scanned(t, s), scanned(t, s)
	n := len(l) - 1
	x := holds(t, l, 0, n, true)
	if !slices.Equal(l, again) {
		t.Fatal("R5: the row is changed")
	}
	want := tree.Text(x)
	y := holds(t, l, 0, n, true)
	for work := []*api.Node{y}; len(work) > 0; work = work[1:] {
		work = append(work, work[0].Kids...)
		work[0].Kind, work[0].Name = 200, "changed"
		clear(work[0].Kids[:cap(work[0].Kids)])
	}
	clear(l)
	if tree.Text(x) != want {
		t.Error("R5: an answer hangs on another one, or on the row")
	}
	if z := holds(t, again, 0, n, true); tree.Text(z) != want {
		t.Error("R6: another answer")
	}
	seen := map[*api.Node]bool{}
	for work := []*api.Node{x}; len(work) > 0; work = work[1:] {
		if seen[work[0]] {
			t.Fatal("R5: a node that stands there twice", tree.Text(work[0]))
		}
		seen[work[0]] = true
		work = append(work, work[0].Kids...)
	}
}

// R1: no row is too deep, and none too long: what is read needs no more calls within others than a short row does.
func TestDeep(t *testing.T) {
	const n = 1 << 13
	defer debug.SetMaxStack(debug.SetMaxStack(1 << 18))
	for _, x := range []struct {
		ahead, mid, behind string
		deep               int
	}{
		{"IF name THEN", "name", "END", 2*n + 3},
		{"IF name THEN", "", "ELSE END", 2*n + 1},
		{"IF name THEN ELSE", "", "END", 2*n + 1},
		{"IF name THEN ELSIF name THEN", "", "ELSE name END", 2*n + 3},
		{"CASE name OF number :", "name", "END", 3*n + 3},
		{"CASE name OF ELSE", "", "END", 3*n + 1},
		{"CASE name OF bar number : name bar number :", "", "bar ELSE END", 3*n + 3},
		{"WHILE name DO", "", "END", 2*n + 1},
		{"REPEAT", "", "UNTIL name", 2*n + 1},
		{"LOOP", "EXIT", "END", 2*n + 2},
		{"LOOP ; name ;", "", "; name ; END", 2*n + 3},
		{"FOR name := number TO number DO", "", "END", 2*n + 1},
		{"WITH name DO", "RETURN", "END", 2*n + 2},
		{"", "name", "; name", 3},
		{"name := number ;", "", "", 3},
		{";", "", "", 1},
		{"", "name :=", "(", 0},
		{"", "name", "[ name", 0},
		{"IF name THEN", "name :=", "", 0},
	} {
		ahead, behind := tokens(x.ahead), tokens(x.behind)
		row := slices.Concat(slices.Repeat(ahead, n), tokens(x.mid), slices.Repeat(behind, n))
		if x.deep == 0 {
			holds(t, row, 0, len(row), false)
			continue
		}
		if got := tree.Deep(holds(t, row, 0, len(row), true)); got != x.deep {
			t.Errorf("R1: %s ..: %d deep, want %d", x.ahead, got, x.deep)
		}
		if x.deep > 3 {
			cut := n * len(ahead)
			holds(t, row[:cut:cut], 0, cut, false)
			holds(t, append(row[:len(row)-len(behind):len(row)-len(behind)], symbol(")")), 0, len(row)-len(behind), false)
		}
	}
	if x := holds(t, slices.Concat(tokens("name ("), slices.Repeat(tokens("number ,"), n), tokens("number )")), 0, 2*n+4, true); len(x.Kids[0].Kids) != n+2 {
		t.Error("P7.1: a long row of arguments", len(x.Kids[0].Kids))
	}
	if x := holds(t, slices.Concat(tokens("IF name THEN"), slices.Repeat(tokens("ELSIF name THEN"), n), tokens("END")), 0, 3*n+4, true); len(x.Kids[0].Kids) != 2*n+2 {
		t.Error("P7.1: a long row of conditions", len(x.Kids[0].Kids))
	}
	if x := holds(t, slices.Concat(tokens("CASE name OF"), slices.Repeat(tokens("number : bar"), n), tokens("END")), 0, 3*n+4, true); len(x.Kids[0].Kids) != n+1 {
		t.Error("P7.1: a long row of arms", len(x.Kids[0].Kids))
	}
	holds(t, slices.Concat(tokens("CASE name OF"), slices.Repeat(tokens("bar"), n), tokens("END")), 0, n+4, true)
	holds(t, slices.Concat(tokens("name := "), slices.Repeat(tokens("("), n), tokens("number"), slices.Repeat(tokens(")"), n)), 0, 2*n+3, true)
}
