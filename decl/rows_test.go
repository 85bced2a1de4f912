package decl_test

import (
	"math/rand"
	"slices"
	"strconv"
	"testing"

	"separatum/api"
	"separatum/lex"
	"separatum/tree"
)

// texts is trees as texts.
func texts(l []*api.Node) string {
	s := ""
	for _, x := range l {
		s += tree.Text(x) + "\n"
	}
	return s
}

// rests is what may stand behind a token that can't: nothing of it may make a difference.
func rests() [][]api.Token {
	return [][]api.Token{nil, {{}}, scanned("; a : a END a ;"), scanned(") ] OF a"), scanned("= 1 ; END"), scanned("BEGIN END a ;"), scanned(".. | ELSE")}
}

// around holds a row that can go on to become what, and that row with each token behind it with which it can't; and answers those with which it can.
func around(t *testing.T, what string, s state, l, with []api.Token) []api.Token {
	t.Helper()
	var more []api.Token
	plain := texts(holds(t, what, put(l), 0, len(l), s.done()))
	for i, one := range with {
		if s.behind(one).goes() {
			more = append(more, one)
			continue
		}
		longer := put(slices.Concat(l, []api.Token{one}, rests()[i%len(rests())]))
		got := texts(holds(t, what, longer, 0, len(l), s.done()))
		if got != plain {
			t.Fatalf("P8.2: %s of %s: %s; with %s behind it: %s", what, lex.Join(l), plain, class(one), got)
		}
	}
	return more
}

// search goes through all rows of up to n tokens behind l that can go on to become what, with each token behind them.
func search(t *testing.T, what string, s state, l []api.Token, n int, with []api.Token) {
	t.Helper()
	for _, one := range around(t, what, s, l, with) {
		if n > 0 {
			search(t, what, s.behind(one), append(slices.Clip(l), one), n-1, with)
		}
	}
}

// P8.1, P8.2: which rows are taken, how far, and where errors are.
func TestAllShortRows(t *testing.T) {
	g := read(chapters)
	for what := range calls() {
		t.Run(what, func(t *testing.T) {
			t.Parallel()
			search(t, what, g.begin(what), nil, 2, all())
		})
	}
	for _, x := range []struct {
		what, ahead string
		n           int
		with        string
	}{
		{"type", "", 6, "a . , ( ) [ .. ] ARRAY OF"},
		{"type", "", 6, "a POINTER TO SET OF ARRAY ( ) RECORD END"},
		{"type", "", 9, "a VAR ARRAY OF , ( ) : PROCEDURE ; ."},
		{"type", "", 8, "a RECORD ; : , END POINTER"},
		{"type", "RECORD", 9, "CASE a : OF ; END"},
		{"type", "RECORD a : a", 3, "CASE a : OF ; END | ELSE"},
		{"type", "RECORD CASE a : a OF", 7, "| a : ; , END ELSE"},
		{"type", "RECORD CASE a : a OF 1 :", 6, "a : ; END CASE | ELSE , 1"},
		{"type", "RECORD CASE a : a OF 1", 5, ", 2 .. : ; | END a"},
		{"type", "RECORD CASE a : a OF ELSE", 7, "a : ; END CASE | ELSE ,"},
		{"type", "RECORD CASE a : a OF END", 4, "; END CASE a |"},
		{"type", "RECORD ; CASE a : a OF | 1 : a : a END", 4, "; END CASE a |"},
		{"heading", "PROCEDURE", 8, "a ( ) ; : ,"},
		{"heading", "PROCEDURE a (", 7, "a VAR ARRAY OF : , ; )"},
		{"heading", "PROCEDURE a (", 6, "a VAR ARRAY OF : )"},
		{"heading", "PROCEDURE a", 5, "( ) : . a ; ="},
		{"decls", "", 6, "CONST a = 1 ;"},
		{"decls", "", 7, "TYPE a = ; b"},
		{"defs", "", 7, "TYPE a = ; b"},
		{"decls", "", 8, "VAR a , : ;"},
		{"decls", "", 4, "CONST TYPE VAR PROCEDURE MODULE a ; BEGIN END"},
		{"defs", "", 5, "CONST TYPE VAR PROCEDURE MODULE a ; BEGIN END"},
		{"decls", "PROCEDURE a", 6, "; BEGIN END a b ("},
		{"decls", "PROCEDURE a ; PROCEDURE b ; END", 7, "; BEGIN END a b"},
		{"decls", "MODULE a", 7, "; END a b BEGIN"},
		{"decls", "MODULE a ;", 7, "IMPORT EXPORT QUALIFIED a , ;"},
		{"decls", "MODULE a ; EXPORT b ;", 3, "IMPORT EXPORT QUALIFIED a b , ; BEGIN END FROM CONST"},
		{"decls", "MODULE a ; MODULE b ; PROCEDURE a ; END", 7, "; END a b"},
		{"defs", "PROCEDURE a", 4, "; PROCEDURE a BEGIN END ( )"},
		{"block", "", 6, "BEGIN END ; a CONST"},
		{"block", "BEGIN", 5, "a := 1 ; END RETURN LOOP ELSE"},
		{"block", "PROCEDURE a ;", 6, "BEGIN END ; a b"},
	} {
		t.Run(x.what+" "+x.ahead, func(t *testing.T) {
			t.Parallel()
			l := scanned(x.ahead)
			s := g.begin(x.what)
			for _, one := range l {
				s = s.behind(one)
			}
			search(t, x.what, s, l, x.n, scanned(x.with))
		})
	}
}

// P8.1, P8.2: rows that come to be by chance, with some token behind each beginning of them.
func TestWalks(t *testing.T) {
	g := read(chapters)
	for what := range calls() {
		t.Run(what, func(t *testing.T) {
			t.Parallel()
			for seed := range 60 {
				chance := rand.New(rand.NewSource(int64(seed)))
				s := g.begin(what)
				var l []api.Token
				for n := range 40 {
					var some []api.Token
					for i, one := range all() {
						if s.behind(one).goes() || (i+n+seed)%6 == 0 {
							some = append(some, one)
						}
					}
					more := around(t, what, s, l, some)
					if len(more) == 0 {
						break
					}
					one := drawn(chance, more)
					s, l = s.behind(one), append(l, one)
				}
			}
		})
	}
}

// drawn is one of l: more often one that belongs to types and declarations, or ends something, so that rows get beyond their first expression.
func drawn(chance *rand.Rand, l []api.Token) api.Token {
	telling := slices.DeleteFunc(slices.Clone(l), func(t api.Token) bool {
		return !slices.Contains(scannedTexts("; : = , ) ] .. | ARRAY OF RECORD END CASE ELSE SET POINTER PROCEDURE VAR TYPE MODULE IMPORT EXPORT BEGIN"), t.Text)
	})
	if len(telling) > 0 && chance.Intn(4) > 0 {
		l = telling
	}
	return l[chance.Intn(len(l))]
}

// scannedTexts is the texts of a text's tokens.
func scannedTexts(text string) []string {
	var l []string
	for _, t := range scanned(text) {
		l = append(l, t.Text)
	}
	return l
}

// P8.1: what stands ahead of the place makes no difference, nor does a longer row.
func TestPlaceInRow(t *testing.T) {
	g := read(chapters)
	l := append(scanned(`CONST a = 1; TYPE b = ARRAY [0..3], a.b OF RECORD x, y: POINTER TO (p, q); CASE t: m.n OF 1, 2..3: z: SET OF b | ELSE u: PROCEDURE (VAR ARRAY OF a, b): c; END; END;
VAR v, w: a; PROCEDURE f(VAR x: b; y, z: ARRAY OF a.b): c; VAR i: a; BEGIN i := f(1) END f; MODULE m; IMPORT a, b; EXPORT QUALIFIED c; TYPE c = PROCEDURE; END m; TYPE d; END`), api.Token{})
	l = put(l)
	for what := range calls() {
		for at := range len(l) + 1 {
			next, ok := g.reach(what, l, at)
			x := texts(holds(t, what, l, at, next, ok))
			y := texts(holds(t, what, slices.Clone(l[at:]), 0, next-at, ok))
			if x != y {
				t.Errorf("P8.1: %s at %d: %s, %s", what, at, x, y)
			}
		}
	}
}

// P8.1, P8.2: with another token at any place the error is where the row can't go on, whatever stands behind it.
func TestSpoiled(t *testing.T) {
	g := read(chapters)
	for part := range 8 {
		t.Run(strconv.Itoa(part), func(t *testing.T) {
			t.Parallel()
			with := all()
			for seed := range 20 {
				m := newMaker(int64(part*100+seed), 20)
				what := []string{"decls", "block", "type", "heading", "defs"}[seed%5]
				m.makes(what)
				for i := range m.row {
					spoiled := slices.Clone(m.row)
					spoiled[i] = with[(part+seed*7+i*13)%len(with)]
					next, ok := g.reach(what, spoiled, 0)
					x := texts(holds(t, what, spoiled, 0, next, ok))
					for j := next + 1; j < len(spoiled); j++ {
						spoiled[j] = with[(seed+j*17)%len(with)]
					}
					if y := texts(holds(t, what, spoiled, 0, next, ok)); x != y {
						t.Fatalf("P8.2: %s of %s: %s, %s", what, lex.Join(spoiled), x, y)
					}
				}
			}
		})
	}
}
