package decl_test

import (
	"math"
	"slices"
	"strings"
	"testing"

	"separatum/api"
	"separatum/decl"
	"separatum/lex"
	"separatum/tree"
)

// source is the tokens of s, with the end, at their own places.
func source(t *testing.T, s string) []api.Token {
	t.Helper()
	l, _, e := lex.Scan(s)
	if e != api.OK {
		t.Fatalf("%q is no source: %d", s, e)
	}
	return l
}

// P8.1: kinds, places, names, numbers and kids of all nodes.
func TestNodes(t *testing.T) {
	const a = "(20 1:1 0: 0 (1 1:1 1:a 0))"
	for _, x := range []struct{ what, s, want string }{
		{"type", "a", a},
		{"type", " a . b.c", "(20 1:2 0: 0 (2 1:7 1:c 0 (2 1:4 1:b 0 (1 1:2 1:a 0))))"},
		{"type", " (a, bc)", "(21 1:2 0: 0 (1 1:3 1:a 0) (1 1:6 2:bc 0))"},
		{"type", "[0 .. n-1]", "(22 1:1 0: 0 (5 1:2 0: 0) (11 1:8 1:- 0 (1 1:7 1:n 0) (5 1:9 0: 1)))"},
		{"type", "['a'..-1]", "(22 1:1 0: 0 (7 1:2 1:a 0) (12 1:7 1:- 0 (5 1:8 0: 1)))"},
		{"type", "ARRAY a OF b", "(23 1:1 0: 0 (20 1:7 0: 0 (1 1:7 1:a 0)) (20 1:12 0: 0 (1 1:12 1:b 0)))"},
		{"type", "ARRAY a , [1..2],(b)OF c", "(23 1:1 0: 0 (20 1:7 0: 0 (1 1:7 1:a 0)) (23 1:9 0: 0 (22 1:11 0: 0 (5 1:12 0: 1) (5 1:15 0: 2)) (23 1:17 0: 0 (21 1:18 0: 0 (1 1:19 1:b 0)) (20 1:24 0: 0 (1 1:24 1:c 0)))))"},
		{"type", "ARRAY a OF ARRAY b OF c", "(23 1:1 0: 0 (20 1:7 0: 0 (1 1:7 1:a 0)) (23 1:12 0: 0 (20 1:18 0: 0 (1 1:18 1:b 0)) (20 1:23 0: 0 (1 1:23 1:c 0))))"},
		{"type", "SET OF [0..7]", "(31 1:1 0: 0 (22 1:8 0: 0 (5 1:9 0: 0) (5 1:12 0: 7)))"},
		{"type", "SET OF (a)", "(31 1:1 0: 0 (21 1:8 0: 0 (1 1:9 1:a 0)))"},
		{"type", " POINTER TO a", "(32 1:2 0: 0 (20 1:13 0: 0 (1 1:13 1:a 0)))"},
		{"type", "POINTER TO POINTER TO a", "(32 1:1 0: 0 (32 1:12 0: 0 (20 1:23 0: 0 (1 1:23 1:a 0))))"},
		{"type", "RECORD END", "(25 1:1 0: 0)"},
		{"type", "RECORD ;; END", "(25 1:1 0: 0)"},
		{"type", "RECORD a, b: c END", "(25 1:1 0: 0 (26 1:8 0: 0 (1 1:8 1:a 0) (1 1:11 1:b 0) (20 1:14 0: 0 (1 1:14 1:c 0))))"},
		{"type", "RECORD ;a: b;;c: d; END", "(25 1:1 0: 0 (26 1:9 0: 0 (1 1:9 1:a 0) (20 1:12 0: 0 (1 1:12 1:b 0))) (26 1:15 0: 0 (1 1:15 1:c 0) (20 1:18 0: 0 (1 1:18 1:d 0))))"},
		{"type", "RECORD CASE a: b.c OF END END", "(25 1:1 0: 0 (27 1:8 1:a 0 (20 1:16 0: 0 (2 1:17 1:c 0 (1 1:16 1:b 0)))))"},
		{"type", "RECORD a: b; CASE c: d OF END; END", "(25 1:1 0: 0 (26 1:8 0: 0 (1 1:8 1:a 0) (20 1:11 0: 0 (1 1:11 1:b 0))) (27 1:14 1:c 0 (20 1:22 0: 0 (1 1:22 1:d 0))))"},
		{"type", "RECORD CASE a: b OF | 1, 2..3: c: d; e: f | 4: | | ELSE g: h END END", "(25 1:1 0: 0 (27 1:8 1:a 0 (20 1:16 0: 0 (1 1:16 1:b 0)) (28 1:23 0: 0 (29 1:23 0: 0 (5 1:23 0: 1) (9 1:26 0: 0 (5 1:26 0: 2) (5 1:29 0: 3))) (26 1:32 0: 0 (1 1:32 1:c 0) (20 1:35 0: 0 (1 1:35 1:d 0))) (26 1:38 0: 0 (1 1:38 1:e 0) (20 1:41 0: 0 (1 1:41 1:f 0)))) (28 1:45 0: 0 (29 1:45 0: 0 (5 1:45 0: 4))) (30 1:52 0: 0 (26 1:57 0: 0 (1 1:57 1:g 0) (20 1:60 0: 0 (1 1:60 1:h 0))))))"},
		{"type", "RECORD CASE a: b OF ELSE END END", "(25 1:1 0: 0 (27 1:8 1:a 0 (20 1:16 0: 0 (1 1:16 1:b 0)) (30 1:21 0: 0)))"},
		{"type", "RECORD CASE a: b OF (1): END; END", "(25 1:1 0: 0 (27 1:8 1:a 0 (20 1:16 0: 0 (1 1:16 1:b 0)) (28 1:21 0: 0 (29 1:21 0: 0 (5 1:22 0: 1)))))"},
		{"type", "PROCEDURE", "(33 1:1 0: 0 (0 - 0: 0))"},
		{"type", "PROCEDURE ( )", "(33 1:1 0: 0 (0 - 0: 0))"},
		{"type", "PROCEDURE (): a", "(33 1:1 0: 0 (20 1:15 0: 0 (1 1:15 1:a 0)))"},
		{"type", "PROCEDURE (a, VAR b.c, ARRAY OF d, VAR ARRAY OF e): f", "(33 1:1 0: 0 (34 1:12 0: 0 (20 1:12 0: 0 (1 1:12 1:a 0))) (34 1:15 0: 1 (20 1:19 0: 0 (2 1:20 1:c 0 (1 1:19 1:b 0)))) (34 1:24 0: 0 (24 1:24 0: 0 (20 1:33 0: 0 (1 1:33 1:d 0)))) (34 1:36 0: 1 (24 1:40 0: 0 (20 1:49 0: 0 (1 1:49 1:e 0)))) (20 1:53 0: 0 (1 1:53 1:f 0)))"},
		{"heading", "PROCEDURE f", "(43 1:1 1:f 0 (33 1:1 0: 0 (0 - 0: 0)))"},
		{"heading", " PROCEDURE f()", "(43 1:2 1:f 0 (33 1:2 0: 0 (0 - 0: 0)))"},
		{"heading", "PROCEDURE fg(): a.b", "(43 1:1 2:fg 0 (33 1:1 0: 0 (20 1:17 0: 0 (2 1:18 1:b 0 (1 1:17 1:a 0)))))"},
		{"heading", "PROCEDURE f(a, b: c; VAR d: ARRAY OF e; g: ARRAY OF h; VAR i: j)", "(43 1:1 1:f 0 (33 1:1 0: 0 (34 1:13 0: 0 (1 1:13 1:a 0) (1 1:16 1:b 0) (20 1:19 0: 0 (1 1:19 1:c 0))) (34 1:22 0: 1 (1 1:26 1:d 0) (24 1:29 0: 0 (20 1:38 0: 0 (1 1:38 1:e 0)))) (34 1:41 0: 0 (1 1:41 1:g 0) (24 1:44 0: 0 (20 1:53 0: 0 (1 1:53 1:h 0)))) (34 1:56 0: 1 (1 1:60 1:i 0) (20 1:63 0: 0 (1 1:63 1:j 0))) (0 - 0: 0)))"},
		{"decls", "", ""},
		{"decls", "CONST TYPE VAR CONST", ""},
		{"decls", "CONST a = 1; bc = -x;", "(40 1:7 1:a 0 (5 1:11 0: 1))(40 1:14 2:bc 0 (12 1:19 1:- 0 (1 1:20 1:x 0)))"},
		{"decls", "TYPE a = b; cd = RECORD END;", "(41 1:6 1:a 0 (20 1:10 0: 0 (1 1:10 1:b 0)))(41 1:13 2:cd 0 (25 1:18 0: 0))"},
		{"decls", "VAR a, b: c; d: POINTER TO e;", "(42 1:5 0: 0 (1 1:5 1:a 0) (1 1:8 1:b 0) (20 1:11 0: 0 (1 1:11 1:c 0)))(42 1:14 0: 0 (1 1:14 1:d 0) (32 1:17 0: 0 (20 1:28 0: 0 (1 1:28 1:e 0))))"},
		{"decls", "VAR a, b: ARRAY [0..3], BOOLEAN OF CHAR;", "(42 1:5 0: 0 (1 1:5 1:a 0) (1 1:8 1:b 0) (23 1:11 0: 0 (22 1:17 0: 0 (5 1:18 0: 0) (5 1:21 0: 3)) (23 1:23 0: 0 (20 1:25 0: 0 (1 1:25 7:BOOLEAN 0)) (20 1:36 0: 0 (1 1:36 4:CHAR 0)))))"},
		{"decls", "PROCEDURE f; END f;", "(43 1:1 1:f 0 (33 1:1 0: 0 (0 - 0: 0)) (45 1:14 0: 0 (46 1:14 0: 0)))"},
		{"decls", "PROCEDURE f(a: b): c; VAR d: e; BEGIN RETURN d END f;", "(43 1:1 1:f 0 (33 1:1 0: 0 (34 1:13 0: 0 (1 1:13 1:a 0) (20 1:16 0: 0 (1 1:16 1:b 0))) (20 1:20 0: 0 (1 1:20 1:c 0))) (45 1:23 0: 0 (42 1:27 0: 0 (1 1:27 1:d 0) (20 1:30 0: 0 (1 1:30 1:e 0))) (46 1:39 0: 0 (70 1:39 0: 0 (1 1:46 1:d 0)))))"},
		{"decls", "PROCEDURE f; PROCEDURE g; END g; END f;", "(43 1:1 1:f 0 (33 1:1 0: 0 (0 - 0: 0)) (45 1:14 0: 0 (43 1:14 1:g 0 (33 1:14 0: 0 (0 - 0: 0)) (45 1:27 0: 0 (46 1:27 0: 0))) (46 1:34 0: 0)))"},
		{"decls", "MODULE m; END m;", "(44 1:1 1:m 0 (45 1:11 0: 0 (46 1:11 0: 0)))"},
		{"decls", "MODULE m; IMPORT a, b; IMPORT c; EXPORT QUALIFIED d, e; CONST d = 1; END m;", "(44 1:1 1:m 0 (53 1:11 0: 0 (1 1:18 1:a 0) (1 1:21 1:b 0)) (53 1:24 0: 0 (1 1:31 1:c 0)) (55 1:34 0: 1 (1 1:51 1:d 0) (1 1:54 1:e 0)) (45 1:57 0: 0 (40 1:63 1:d 0 (5 1:67 0: 1)) (46 1:70 0: 0)))"},
		{"decls", "MODULE m; EXPORT a; BEGIN a END m;", "(44 1:1 1:m 0 (55 1:11 0: 0 (1 1:18 1:a 0)) (45 1:21 0: 0 (46 1:27 0: 0 (61 1:27 0: 0 (1 1:27 1:a 0)))))"},
		{"decls", "CONST a = 1; VAR TYPE b = a; CONST", "(40 1:7 1:a 0 (5 1:11 0: 1))(41 1:23 1:b 0 (20 1:27 0: 0 (1 1:27 1:a 0)))"},
		{"decls", "MODULE m; END m; PROCEDURE f; END f; VAR a: b;", "(44 1:1 1:m 0 (45 1:11 0: 0 (46 1:11 0: 0)))(43 1:18 1:f 0 (33 1:18 0: 0 (0 - 0: 0)) (45 1:31 0: 0 (46 1:31 0: 0)))(42 1:42 0: 0 (1 1:42 1:a 0) (20 1:45 0: 0 (1 1:45 1:b 0)))"},
		{"defs", "", ""},
		{"defs", "TYPE a; bc; d = e; f;", "(41 1:6 1:a 0 (0 - 0: 0))(41 1:9 2:bc 0 (0 - 0: 0))(41 1:13 1:d 0 (20 1:17 0: 0 (1 1:17 1:e 0)))(41 1:20 1:f 0 (0 - 0: 0))"},
		{"defs", "PROCEDURE f; PROCEDURE g(a: b); CONST c = 1; VAR d: e;", "(43 1:1 1:f 0 (33 1:1 0: 0 (0 - 0: 0)))(43 1:14 1:g 0 (33 1:14 0: 0 (34 1:26 0: 0 (1 1:26 1:a 0) (20 1:29 0: 0 (1 1:29 1:b 0))) (0 - 0: 0)))(40 1:39 1:c 0 (5 1:43 0: 1))(42 1:50 0: 0 (1 1:50 1:d 0) (20 1:53 0: 0 (1 1:53 1:e 0)))"},
		{"block", " END", "(45 1:2 0: 0 (46 1:2 0: 0))"},
		{"block", " BEGIN END", "(45 1:2 0: 0 (46 1:8 0: 0))"},
		{"block", "BEGIN ; a END", "(45 1:1 0: 0 (46 1:7 0: 0 (61 1:9 0: 0 (1 1:9 1:a 0))))"},
		{"block", "CONST a = 1; BEGIN a := 1; b END", "(45 1:1 0: 0 (40 1:7 1:a 0 (5 1:11 0: 1)) (46 1:20 0: 0 (60 1:22 0: 0 (1 1:20 1:a 0) (5 1:25 0: 1)) (61 1:28 0: 0 (1 1:28 1:b 0))))"},
		{"block", "VAR END", "(45 1:1 0: 0 (46 1:5 0: 0))"},
	} {
		l := source(t, x.s)
		if s := strings.ReplaceAll(texts(holds(t, x.what, l, 0, len(l)-1, true)), "\n", ""); s != x.want {
			t.Errorf("P8.1: %s of %q: %s; want %s", x.what, x.s, s, x.want)
		}
	}
}

// P8.1: what is told reaches as far as it can.
func TestReaches(t *testing.T) {
	for _, x := range []struct {
		what, s string
		next    int
	}{
		{"type", "a b", 1}, {"type", "a, b", 1}, {"type", "a(b)", 1}, {"type", "a[1]", 1}, {"type", "a^", 1}, {"type", "a{1}", 1}, {"type", "(a) .. (b)", 3}, {"type", "[1..2]..3", 5},
		{"type", "PROCEDURE : a", 1}, {"type", "PROCEDURE a", 1}, {"type", "PROCEDURE [1]", 1}, {"type", "PROCEDURE (a): b(c)", 6}, {"type", "PROCEDURE (a): b.c.d,", 10}, {"type", "PROCEDURE ()()", 3},
		{"type", "RECORD END END", 2}, {"type", "RECORD END;", 2}, {"type", "POINTER TO a^", 3}, {"type", "ARRAY a OF b, c", 4}, {"type", "SET OF a OF b", 3},
		{"heading", "PROCEDURE a;", 2}, {"heading", "PROCEDURE a: b", 2}, {"heading", "PROCEDURE a b", 2}, {"heading", "PROCEDURE a(): b;", 6}, {"heading", "PROCEDURE a()(", 4},
		{"decls", "END", 0}, {"decls", "a = 1;", 0}, {"decls", "IMPORT a;", 0}, {"decls", "EXPORT a;", 0}, {"decls", "BEGIN", 0}, {"decls", "FROM a IMPORT b;", 0}, {"decls", "; VAR", 0},
		{"decls", "VAR;", 1}, {"decls", "VAR a: b;;", 5}, {"decls", "CONST a = 1; 2", 5}, {"decls", "PROCEDURE a; END a; a", 6}, {"decls", "PROCEDURE a; END a; b: c;", 6}, {"decls", "MODULE a; END a; a: b;", 6}, {"decls", "MODULE a; END a; IMPORT b;", 6},
		{"decls", "DEFINITION MODULE a;", 0}, {"decls", "TYPE IMPLEMENTATION", 1}, {"decls", "VAR BEGIN", 1}, {"decls", "TYPE END", 1},
		{"defs", "MODULE a; END a;", 0}, {"defs", "TYPE MODULE a; END a;", 1}, {"defs", "VAR a: b; MODULE a; END a;", 5}, {"defs", "PROCEDURE a; END a;", 3}, {"defs", "PROCEDURE a; BEGIN", 3}, {"defs", "TYPE a; END", 3}, {"defs", "PROCEDURE a; b = c;", 3},
		{"block", "END a;", 1}, {"block", "END;", 1}, {"block", "BEGIN END.", 2}, {"block", "BEGIN a END END", 3}, {"block", "END VAR a: b;", 1},
	} {
		l := source(t, x.s)
		holds(t, x.what, l, 0, x.next, true)
		holds(t, x.what, slices.Concat(l[:x.next], scanned("DO VAR a")), 0, x.next, true)
	}
}

// fault is a text, and how many of its tokens are ahead of the first one that can't stand there.
type fault struct {
	what, s string
	at      int
}

func faults() []fault {
	return []fault{
		{"type", "", 0}, {"type", "1", 0}, {"type", "'a'", 0}, {"type", ";", 0}, {"type", "OF", 0}, {"type", "VAR", 0}, {"type", "END", 0}, {"type", "CASE", 0}, {"type", "{", 0}, {"type", "-1", 0}, {"type", "1..2", 0},
		{"type", "a.", 2}, {"type", "a.1", 2}, {"type", "a.b.", 4}, {"type", "(", 1}, {"type", "()", 1}, {"type", "(1)", 1}, {"type", "(a", 2}, {"type", "(a b)", 2}, {"type", "(a,", 3}, {"type", "(a,)", 3}, {"type", "(a.b)", 2}, {"type", "(a]", 2}, {"type", "(a;b)", 2},
		{"type", "[", 1}, {"type", "[]", 1}, {"type", "[1", 2}, {"type", "[1]", 2}, {"type", "[1,2]", 2}, {"type", "[1..", 3}, {"type", "[1..]", 3}, {"type", "[..2]", 1}, {"type", "[1..2", 4}, {"type", "[1..2)", 4}, {"type", "[1..2,", 4}, {"type", "[1..2..3]", 4}, {"type", "[1 + ..2]", 3},
		{"type", "ARRAY", 1}, {"type", "ARRAY OF a", 1}, {"type", "ARRAY a", 2}, {"type", "ARRAY a,", 3}, {"type", "ARRAY a, OF b", 3}, {"type", "ARRAY a OF", 3}, {"type", "ARRAY a OF OF", 3}, {"type", "ARRAY a TO b", 2}, {"type", "ARRAY [1..2] b", 6}, {"type", "ARRAY RECORD END OF a", 1}, {"type", "ARRAY ARRAY a OF b OF c", 1}, {"type", "ARRAY a OF ARRAY OF b", 4},
		{"type", "SET", 1}, {"type", "SET a", 1}, {"type", "SET OF", 2}, {"type", "SET OF SET OF a", 2}, {"type", "SET OF RECORD END", 2}, {"type", "SET OF POINTER TO a", 2}, {"type", "SET TO a", 1},
		{"type", "POINTER", 1}, {"type", "POINTER a", 1}, {"type", "POINTER OF a", 1}, {"type", "POINTER TO", 2}, {"type", "POINTER TO TO", 2}, {"type", "POINTER TO ;", 2},
		{"type", "RECORD", 1}, {"type", "RECORD 1", 1}, {"type", "RECORD VAR a: b", 1}, {"type", "RECORD a", 2}, {"type", "RECORD a b", 2}, {"type", "RECORD a,", 3}, {"type", "RECORD a, : b", 3}, {"type", "RECORD a:", 3}, {"type", "RECORD a: END", 3}, {"type", "RECORD a = b", 2}, {"type", "RECORD a: b", 4}, {"type", "RECORD a: b c", 4}, {"type", "RECORD a: b CASE", 4}, {"type", "RECORD a: b | c", 4}, {"type", "RECORD a: b ELSE", 4}, {"type", "RECORD ;", 2}, {"type", "RECORD | END", 1}, {"type", "RECORD a: ARRAY OF b", 4}, {"type", "RECORD a.b: c", 2},
		{"type", "RECORD CASE", 2}, {"type", "RECORD CASE :", 2}, {"type", "RECORD CASE 1", 2}, {"type", "RECORD CASE a", 3}, {"type", "RECORD CASE a OF", 3}, {"type", "RECORD CASE a.b OF", 3}, {"type", "RECORD CASE a, b: c", 3}, {"type", "RECORD CASE a:", 4}, {"type", "RECORD CASE a: OF", 4}, {"type", "RECORD CASE a: (b) OF", 4}, {"type", "RECORD CASE a: [1..2] OF", 4}, {"type", "RECORD CASE a: b", 5}, {"type", "RECORD CASE a: b DO", 5}, {"type", "RECORD CASE a: b OF", 6}, {"type", "RECORD CASE a: b OF ;", 6}, {"type", "RECORD CASE a: b OF :", 6},
		{"type", "RECORD CASE a: b OF 1", 7}, {"type", "RECORD CASE a: b OF 1 END", 7}, {"type", "RECORD CASE a: b OF 1, :", 8}, {"type", "RECORD CASE a: b OF 1 .. :", 8}, {"type", "RECORD CASE a: b OF 1; 2", 7}, {"type", "RECORD CASE a: b OF 1:", 8}, {"type", "RECORD CASE a: b OF 1: 2: c: d", 8}, {"type", "RECORD CASE a: b OF 1: c END", 9}, {"type", "RECORD CASE a: b OF 1: c: d e", 11}, {"type", "RECORD CASE a: b OF 1: CASE", 8}, {"type", "RECORD CASE a: b OF 1: c: d; CASE", 12}, {"type", "RECORD CASE a: b OF 1: ; 2: c: d", 9}, {"type", "RECORD CASE a: b OF |", 7}, {"type", "RECORD CASE a: b OF | ; END", 7},
		{"type", "RECORD CASE a: b OF ELSE", 7}, {"type", "RECORD CASE a: b OF ELSE ELSE", 7}, {"type", "RECORD CASE a: b OF ELSE | END", 7}, {"type", "RECORD CASE a: b OF ELSE 1: c: d", 7}, {"type", "RECORD CASE a: b OF ELSE CASE", 7}, {"type", "RECORD CASE a: b OF ELSE c: d", 10}, {"type", "RECORD CASE a: b OF ELSE c: d |", 10}, {"type", "RECORD CASE a: b OF ELSE c", 8},
		{"type", "RECORD CASE a: b OF END", 7}, {"type", "RECORD CASE a: b OF END c: d END", 7}, {"type", "RECORD CASE a: b OF END CASE", 7}, {"type", "RECORD CASE a: b OF END;", 8}, {"type", "RECORD CASE a: b OF END;; END", 8}, {"type", "RECORD CASE a: b OF END; c: d END", 8}, {"type", "RECORD CASE a: b OF END; CASE", 8}, {"type", "RECORD CASE a: b OF END |", 7},
		{"type", "PROCEDURE (", 2}, {"type", "PROCEDURE (,", 2}, {"type", "PROCEDURE (;)", 2}, {"type", "PROCEDURE (a", 3}, {"type", "PROCEDURE (a b", 3}, {"type", "PROCEDURE (a;", 3}, {"type", "PROCEDURE (a: b)", 3}, {"type", "PROCEDURE (a,", 4}, {"type", "PROCEDURE (a,)", 4}, {"type", "PROCEDURE (VAR", 3}, {"type", "PROCEDURE (VAR)", 3}, {"type", "PROCEDURE (VAR VAR a)", 3}, {"type", "PROCEDURE (ARRAY", 3}, {"type", "PROCEDURE (ARRAY a)", 3}, {"type", "PROCEDURE (ARRAY OF", 4}, {"type", "PROCEDURE (ARRAY OF ARRAY OF a)", 4}, {"type", "PROCEDURE (ARRAY OF VAR a)", 4}, {"type", "PROCEDURE (ARRAY a OF b)", 3}, {"type", "PROCEDURE ([1..2])", 2}, {"type", "PROCEDURE (POINTER", 2},
		{"type", "PROCEDURE ():", 4}, {"type", "PROCEDURE (): ;", 4}, {"type", "PROCEDURE (): ARRAY OF a", 4}, {"type", "PROCEDURE (): (a)", 4}, {"type", "PROCEDURE (): a.", 6}, {"type", "PROCEDURE ( ]", 2},
		{"heading", "", 0}, {"heading", "a", 0}, {"heading", "MODULE a", 0}, {"heading", "CONST", 0}, {"heading", "PROCEDURE", 1}, {"heading", "PROCEDURE ;", 1}, {"heading", "PROCEDURE (a: b)", 1}, {"heading", "PROCEDURE 1", 1}, {"heading", "PROCEDURE a(", 3}, {"heading", "PROCEDURE a(;", 3}, {"heading", "PROCEDURE a(b", 4}, {"heading", "PROCEDURE a(b)", 4}, {"heading", "PROCEDURE a(b,", 5}, {"heading", "PROCEDURE a(b, VAR", 5}, {"heading", "PROCEDURE a(b:", 5}, {"heading", "PROCEDURE a(b: )", 5}, {"heading", "PROCEDURE a(b: VAR c)", 5}, {"heading", "PROCEDURE a(b: c", 6}, {"heading", "PROCEDURE a(b: c,", 6}, {"heading", "PROCEDURE a(b: c d", 6}, {"heading", "PROCEDURE a(b: c;", 7}, {"heading", "PROCEDURE a(b: c;)", 7}, {"heading", "PROCEDURE a(VAR", 4}, {"heading", "PROCEDURE a(VAR)", 4}, {"heading", "PROCEDURE a(VAR VAR b: c)", 4}, {"heading", "PROCEDURE a(b: ARRAY", 6}, {"heading", "PROCEDURE a(b: ARRAY c)", 6}, {"heading", "PROCEDURE a(b: ARRAY OF", 7}, {"heading", "PROCEDURE a(b: ARRAY OF ARRAY", 7}, {"heading", "PROCEDURE a(b: POINTER TO c)", 5}, {"heading", "PROCEDURE a():", 5}, {"heading", "PROCEDURE a(): (b)", 5}, {"heading", "PROCEDURE a(): b.", 7}, {"heading", "PROCEDURE a(): ARRAY OF b", 5},
		{"decls", "CONST a", 2}, {"decls", "CONST a;", 2}, {"decls", "CONST a: b", 2}, {"decls", "CONST a, b = 1;", 2}, {"decls", "CONST a =", 3}, {"decls", "CONST a = ;", 3}, {"decls", "CONST a := 1", 2}, {"decls", "CONST a = 1", 4}, {"decls", "CONST a = 1 b", 4}, {"decls", "CONST a = 1,", 4}, {"decls", "CONST a = 1..2;", 4}, {"decls", "CONST a = 1; b", 6},
		{"decls", "TYPE a", 2}, {"decls", "TYPE a;", 2}, {"decls", "TYPE a, b", 2}, {"decls", "TYPE a: b;", 2}, {"decls", "TYPE a =", 3}, {"decls", "TYPE a = ;", 3}, {"decls", "TYPE a = 1;", 3}, {"decls", "TYPE a = b", 4}, {"decls", "TYPE a = b c", 4}, {"decls", "TYPE a = b, c", 4}, {"decls", "TYPE a = b; c;", 6}, {"decls", "TYPE a = POINTER TO b", 6}, {"decls", "TYPE a = RECORD END END", 5},
		{"decls", "VAR a", 2}, {"decls", "VAR a;", 2}, {"decls", "VAR a = b", 2}, {"decls", "VAR a b", 2}, {"decls", "VAR a,", 3}, {"decls", "VAR a, : b", 3}, {"decls", "VAR a:", 3}, {"decls", "VAR a: ;", 3}, {"decls", "VAR a: b", 4}, {"decls", "VAR a: b c", 4}, {"decls", "VAR a: b := 1", 4}, {"decls", "VAR a: ARRAY OF b;", 4}, {"decls", "VAR a: b; c", 6}, {"decls", "VAR a.b: c", 2},
		{"decls", "PROCEDURE", 1}, {"decls", "PROCEDURE a", 2}, {"decls", "PROCEDURE a END", 2}, {"decls", "PROCEDURE a;", 3}, {"decls", "PROCEDURE a; a", 3}, {"decls", "PROCEDURE a; PROCEDURE", 4}, {"decls", "PROCEDURE a; END", 4}, {"decls", "PROCEDURE a; END;", 4}, {"decls", "PROCEDURE a; END b;", 4}, {"decls", "PROCEDURE a; END A;", 4}, {"decls", "PROCEDURE a; END aa;", 4}, {"decls", "PROCEDURE aa; END a;", 4}, {"decls", "PROCEDURE a; END 'a';", 4}, {"decls", "PROCEDURE a; END a", 5}, {"decls", "PROCEDURE a; END a.", 5}, {"decls", "PROCEDURE a; END a END", 5}, {"decls", "PROCEDURE a; IMPORT b; END a;", 3}, {"decls", "PROCEDURE a; EXPORT b; END a;", 3}, {"decls", "PROCEDURE a(b: c); END b;", 9},
		{"decls", "PROCEDURE a; BEGIN", 4}, {"decls", "PROCEDURE a; BEGIN a", 5}, {"decls", "PROCEDURE a; BEGIN a b END a;", 5}, {"decls", "PROCEDURE a; BEGIN VAR", 4}, {"decls", "PROCEDURE a; BEGIN UNTIL", 4}, {"decls", "PROCEDURE a; PROCEDURE b; END a; END a;", 7}, {"decls", "PROCEDURE a; PROCEDURE b; END b; END b;", 10}, {"decls", "PROCEDURE a; VAR b: c; END b;", 9}, {"decls", "PROCEDURE a; TYPE b; END a;", 5},
		{"decls", "MODULE", 1}, {"decls", "MODULE ;", 1}, {"decls", "MODULE a", 2}, {"decls", "MODULE a.", 2}, {"decls", "MODULE a; IMPORT", 4}, {"decls", "MODULE a; IMPORT ;", 4}, {"decls", "MODULE a; IMPORT b", 5}, {"decls", "MODULE a; IMPORT b,", 6}, {"decls", "MODULE a; IMPORT b.c;", 5}, {"decls", "MODULE a; FROM b IMPORT c;", 3}, {"decls", "MODULE a; EXPORT", 4}, {"decls", "MODULE a; EXPORT ;", 4}, {"decls", "MODULE a; EXPORT QUALIFIED", 5}, {"decls", "MODULE a; EXPORT QUALIFIED ;", 5}, {"decls", "MODULE a; EXPORT b", 5}, {"decls", "MODULE a; EXPORT b,", 6}, {"decls", "MODULE a; EXPORT b; EXPORT c;", 6}, {"decls", "MODULE a; EXPORT b; IMPORT c;", 6}, {"decls", "MODULE a; EXPORT b QUALIFIED", 5}, {"decls", "MODULE a; IMPORT QUALIFIED b", 4}, {"decls", "MODULE a; VAR IMPORT b;", 4}, {"decls", "MODULE a; QUALIFIED", 3},
		{"decls", "MODULE a; END", 4}, {"decls", "MODULE a; END b;", 4}, {"decls", "MODULE a; END a", 5}, {"decls", "MODULE a; END a.", 5}, {"decls", "MODULE a; PROCEDURE b; END a;", 7}, {"decls", "MODULE a; MODULE b; END b; END b;", 10}, {"decls", "MODULE a; IMPORT b; END b;", 7}, {"decls", "MODULE a; TYPE b; END a;", 5}, {"decls", "MODULE a; ; END a;", 3},
		{"defs", "TYPE a", 2}, {"defs", "TYPE a =", 3}, {"defs", "TYPE a = ;", 3}, {"defs", "TYPE a = b", 4}, {"defs", "TYPE a, b;", 2}, {"defs", "TYPE a: b;", 2}, {"defs", "TYPE a; b", 4}, {"defs", "TYPE a END", 2}, {"defs", "CONST a;", 2}, {"defs", "VAR a;", 2}, {"defs", "PROCEDURE a", 2}, {"defs", "PROCEDURE a END", 2}, {"defs", "PROCEDURE a.", 2}, {"defs", "PROCEDURE a(b: c)", 7},
		{"block", "", 0}, {"block", "a", 0}, {"block", ";", 0}, {"block", "BEGIN", 1}, {"block", "BEGIN a", 2}, {"block", "BEGIN a;", 3}, {"block", "BEGIN a := END", 3}, {"block", "BEGIN BEGIN", 1}, {"block", "BEGIN CONST", 1}, {"block", "BEGIN RETURN DO", 2}, {"block", "BEGIN RETURN ELSE", 2}, {"block", "BEGIN ELSE", 1}, {"block", "IMPORT a; END", 0}, {"block", "EXPORT a; END", 0}, {"block", "VAR", 1}, {"block", "VAR a", 2}, {"block", "VAR a: b;", 5}, {"block", "TYPE a; END", 2}, {"block", "CONST a = 1; 1", 5}, {"block", "PROCEDURE a; END a; a END", 6},
	}
}

// P8.1, P8.2: errors stand at the first token that can't stand there, whatever stands behind it.
func TestErrors(t *testing.T) {
	for _, x := range faults() {
		l := source(t, x.s)
		holds(t, x.what, l, 0, x.at, false)
		holds(t, x.what, l[:len(l)-1:len(l)-1], 0, x.at, false)
		if x.at < len(l)-1 {
			holds(t, x.what, slices.Concat(l[:x.at+1], scanned("a : b ; END a ; ) ]")), 0, x.at, false)
		}
	}
}

// P8.1: a place below 0, at the row's end, and behind it: there stands the end, again and again.
func TestPlaces(t *testing.T) {
	l := source(t, "VAR a: b; PROCEDURE f; END f;")
	for what := range calls() {
		list := what == "decls" || what == "defs"
		for _, row := range [][]api.Token{nil, {}, l[:0], l, l[:5:5]} {
			for _, at := range []int{-1, -2, -1000, math.MinInt} {
				holds(t, what, row, at, 0, false)
			}
			for _, at := range []int{len(row), len(row) + 1, len(row) + 1000, math.MaxInt - 1, math.MaxInt} {
				if kids := holds(t, what, row, at, at, list); len(kids) != 0 {
					t.Error("P8.1: behind the end", what, at)
				}
			}
		}
	}
	for _, s := range []string{"VAR a", "TYPE a = (b", "PROCEDURE a; BEGIN", "MODULE a; IMPORT b", "CONST a ="} {
		row := slices.Concat(source(t, s), scanned("END a ;"))
		for what := range calls() {
			next, ok := read(chapters).reach(what, row, 0)
			holds(t, what, row, 0, next, ok)
		}
	}
}

// P8.1: a string is none of the symbols, the words and the names that have its text, and no name is a word.
func TestKinds(t *testing.T) {
	for what, s := range map[string]string{
		"type":    "RECORD a, b: ARRAY [1..2], (c) OF POINTER TO SET OF d; CASE e: f OF 1: g: PROCEDURE (VAR ARRAY OF h): i | ELSE j: k END; END",
		"heading": "PROCEDURE a(VAR b: ARRAY OF c; d: e): f",
		"decls":   "CONST a = 1; TYPE b = c; VAR d, e: f; PROCEDURE g; BEGIN END g; MODULE h; IMPORT i; EXPORT QUALIFIED j; END h;",
		"defs":    "CONST a = 1; TYPE b; c = d; VAR e: f; PROCEDURE g;",
		"block":   "VAR a: b; BEGIN c END",
	} {
		l := source(t, s)
		holds(t, what, l, 0, len(l)-1, true)
		for i := range l[:len(l)-1] {
			spoiled := slices.Clone(l)
			spoiled[i].Kind = api.TokStr
			next, ok := read(chapters).reach(what, spoiled, 0)
			holds(t, what, spoiled, 0, next, ok)
		}
	}
}

// P8.1: a block ends with the name that it began with, however many are within.
func TestClosingNames(t *testing.T) {
	const s = "PROCEDURE a; MODULE b; PROCEDURE c; PROCEDURE d; END d; BEGIN END c; END b; PROCEDURE b; END b; END a;"
	l := source(t, s)
	holds(t, "decls", l, 0, len(l)-1, true)
	for i := 1; i < len(l); i++ {
		if l[i-1].Text != "END" {
			continue
		}
		for _, other := range []string{"a", "b", "c", "d", "e", "aa", "A"} {
			spoiled := slices.Clone(l)
			spoiled[i].Text = other
			if other == l[i].Text {
				holds(t, "decls", spoiled, 0, len(l)-1, true)
			} else {
				holds(t, "decls", spoiled, 0, i, false)
			}
		}
	}
}

// R5, R6: a row is neither changed nor kept, no two answers share anything, and the same row tells the same again.
func TestNothingShared(t *testing.T) {
	const s = "CONST a = b + 1; TYPE c = RECORD d, e: ARRAY f, [1..2] OF g; CASE h: i OF 1: j: k | ELSE END END; VAR l, m: (n, o); PROCEDURE p(VAR q: ARRAY OF r): s; BEGIN t := u END p; MODULE v; IMPORT w; EXPORT x; END v;"
	l, again := source(t, s), source(t, s)
	n := len(l) - 1
	x := holds(t, "decls", l, 0, n, true)
	if !slices.Equal(l, again) {
		t.Fatal("R5: the row is changed")
	}
	want := texts(x)
	y := holds(t, "decls", l, 0, n, true)
	for work := slices.Clone(y); len(work) > 0; work = work[1:] {
		work = append(work, work[0].Kids...)
		work[0].Kind, work[0].Name = 200, "changed"
		clear(work[0].Kids[:cap(work[0].Kids)])
	}
	clear(y[:cap(y)])
	clear(l)
	if texts(x) != want {
		t.Error("R5: an answer hangs on another one, or on the row")
	}
	if z := holds(t, "decls", again, 0, n, true); texts(z) != want {
		t.Error("R6: another answer")
	}
	seen := map[*api.Node]bool{}
	for work := slices.Clone(x); len(work) > 0; work = work[1:] {
		if seen[work[0]] {
			t.Fatal("R5: a node that stands there twice", tree.Text(work[0]))
		}
		seen[work[0]] = true
		work = append(work, work[0].Kids...)
	}
}

// R1: no row is too deep, and none too long.
func TestDeep(t *testing.T) {
	t.Parallel()
	const n = 1 << 15
	for _, x := range []struct {
		what, ahead, mid, behind string
		deep                     int
	}{
		{"type", "POINTER TO", "a", "", n + 2},
		{"type", "ARRAY a OF", "a", "", n + 2},
		{"type", "ARRAY a, b OF", "a", "", 2*n + 2},
		{"type", "RECORD a:", "b", "END", 2*n + 2},
		{"type", "RECORD CASE a: b OF 1: c:", "d", "END END", 4*n + 2},
		{"type", "RECORD CASE a: b OF ELSE c:", "d", "END; END", 4*n + 2},
		{"decls", "PROCEDURE a;", "", "END a;", 2*n + 1},
		{"decls", "MODULE a;", "", "BEGIN END a;", 2*n + 1},
		{"decls", "VAR a: POINTER TO b;", "", "", 4},
		{"defs", "PROCEDURE a; TYPE b;", "", "", 3},
		{"decls", "PROCEDURE a; MODULE b; VAR c: d;", "", "END b; END a;", 4*n + 3},
		{"block", "VAR a: b;", "BEGIN END", "", 4},
		{"type", "POINTER TO", "", "", 0},
		{"type", "RECORD a:", "", "", 0},
		{"type", "RECORD CASE a: b OF 1: c:", "", "", 0},
		{"decls", "PROCEDURE a;", "", "", 0},
		{"block", "MODULE a;", "", "END a;", 0},
	} {
		ahead, mid, behind := scanned(x.ahead), scanned(x.mid), scanned(x.behind)
		l := slices.Concat(slices.Repeat(ahead, n), mid, slices.Repeat(behind, n))
		if x.deep == 0 {
			holds(t, x.what, l, 0, len(l), false)
			continue
		}
		deep := 0
		for _, k := range holds(t, x.what, l, 0, len(l), true) {
			deep = max(deep, tree.Deep(k))
		}
		if deep != x.deep {
			t.Errorf("R1: %s of %s ..: %d deep, want %d", x.what, x.ahead, deep, x.deep)
		}
	}
	for _, x := range []struct{ what, ahead, again, behind string }{
		{"type", "(a", ", a", ")"}, {"type", "ARRAY a", ", a", "OF b"}, {"type", "a", ". a", ""}, {"type", "RECORD", ";", "END"}, {"type", "RECORD CASE a: b OF", "|", "END END"}, {"type", "PROCEDURE (a", ", VAR ARRAY OF b", ")"},
		{"heading", "PROCEDURE a(b: c", "; VAR d, e: ARRAY OF f", "): g"}, {"decls", "VAR a", ", b", ": c;"}, {"decls", "MODULE a;", "IMPORT b;", "END a;"}, {"block", "", "CONST a = 1; TYPE", "END"},
	} {
		l := slices.Concat(scanned(x.ahead), slices.Repeat(scanned(x.again), n), scanned(x.behind))
		holds(t, x.what, l, 0, len(l), true)
	}
	if kids, _, _ := decl.Decls(slices.Repeat(scanned("CONST a = 1;"), n), 0, true); len(kids) != n {
		t.Error("P8.1: a long row of declarations", len(kids))
	}
}
