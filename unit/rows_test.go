package unit_test

import (
	"math/rand"
	"slices"
	"strconv"
	"testing"

	"separatum/api"
)

// rests is what may stand behind a token that can't: nothing of it may make a difference.
func rests() [][]api.Token {
	return [][]api.Token{nil, {{}}, scanned("MODULE a ; END a ."), scanned("; END a ."), scanned("a ; IMPORT"), scanned("BEGIN END a ."), scanned("."), scanned("END")}
}

// around holds a row that can go on to become a unit, and that row with each token behind it with which it can't; and answers those with which it can.
func around(t *testing.T, s state, l, with []api.Token) []api.Token {
	t.Helper()
	var more []api.Token
	holds(t, put(l), len(l), s.whole())
	if s.done() { // the end stands behind the dot already
		return nil
	}
	for i, one := range with {
		if s.behind(one).goes() {
			more = append(more, one)
			continue
		}
		holds(t, put(slices.Concat(l, []api.Token{one}, rests()[i%len(rests())])), len(l), false)
	}
	return more
}

// search goes through all rows of up to n tokens behind l that can go on to become a unit, with each token behind them.
func search(t *testing.T, s state, l []api.Token, n int, with []api.Token) {
	t.Helper()
	for _, one := range around(t, s, l, with) {
		if n > 0 {
			search(t, s.behind(one), append(slices.Clip(l), one), n-1, with)
		}
	}
}

// P9.1, P9.2: which rows are units, and where errors are.
func TestAllShortRows(t *testing.T) {
	g := read(chapters)
	for _, x := range []struct {
		ahead string
		n     int
	}{
		{"", 4},
		{"MODULE a ; END a .", 2},
		{"IMPLEMENTATION", 5},
		{"DEFINITION", 5},
		{"DEFINITION MODULE a ; IMPORT b ;", 3},
		{"MODULE a ; FROM b IMPORT c ;", 3},
		{"MODULE a ; BEGIN END", 3},
		{"DEFINITION MODULE a ; PROCEDURE b ;", 3},
	} {
		t.Run(x.ahead, func(t *testing.T) {
			t.Parallel()
			l := scanned(x.ahead)
			search(t, g.after(l), l, x.n, all())
		})
	}
}

// P9.1, P9.2: the same with fewer tokens, and longer rows.
func TestShortRowsOfSome(t *testing.T) {
	g := read(chapters)
	for _, x := range []struct {
		ahead string
		n     int
		with  string
	}{
		{"", 9, "DEFINITION IMPLEMENTATION MODULE a ; END ."},
		{"", 9, "MODULE a b ; END . BEGIN"},
		{"MODULE a ;", 9, "IMPORT FROM a , ;"},
		{"IMPLEMENTATION MODULE a ;", 8, "IMPORT FROM a , ; END"},
		{"DEFINITION MODULE a ;", 8, "IMPORT FROM b , ; END"},
		{"DEFINITION MODULE a ; TYPE b ;", 5, "IMPORT FROM EXPORT a b ; END MODULE BEGIN . PROCEDURE"},
		{"MODULE a ; PROCEDURE b ;", 6, "BEGIN END a b ; ."},
		{"MODULE a ; MODULE b ;", 6, "IMPORT END a b ; . FROM"},
		{"MODULE a ; BEGIN", 6, "a ; END . RETURN"},
		{"MODULE a ; IMPORT b", 6, "; , END a . b"},
	} {
		t.Run(x.ahead, func(t *testing.T) {
			t.Parallel()
			l := scanned(x.ahead)
			search(t, g.after(l), l, x.n, append(scanned(x.with), api.Token{}))
		})
	}
}

// after is the state behind a row.
func (g grammar) after(l []api.Token) state {
	s := g.begin("unit")
	for _, one := range l {
		s = s.behind(one)
	}
	return s
}

// P9.1, P9.2: rows that come to be by chance, with some token behind each beginning of them.
func TestWalks(t *testing.T) {
	g := read(chapters)
	for _, ahead := range []string{"", "MODULE a;", "IMPLEMENTATION MODULE b;", "DEFINITION MODULE c;"} {
		t.Run(ahead, func(t *testing.T) {
			t.Parallel()
			for seed := range 100 {
				chance := rand.New(rand.NewSource(int64(seed)))
				l := scanned(ahead)
				s := g.after(l)
				for n := range 50 {
					var some []api.Token
					for i, one := range all() {
						if s.behind(one).goes() || (i+n+seed)%6 == 0 {
							some = append(some, one)
						}
					}
					more := around(t, s, l, some)
					if len(more) == 0 {
						break
					}
					one := drawn(chance, more)
					s, l = s.behind(one), append(l, one)
				}
			}
		})
	}
}

// drawn is one of l: more often one that belongs to units, or ends something, so that rows get to their end.
func drawn(chance *rand.Rand, l []api.Token) api.Token {
	telling := slices.DeleteFunc(slices.Clone(l), func(t api.Token) bool {
		return !slices.ContainsFunc(scanned("; , : = ) . END BEGIN IMPORT FROM a"), func(o api.Token) bool { return o.Kind == t.Kind && o.Text == t.Text })
	})
	if len(telling) > 0 && chance.Intn(5) > 0 {
		l = telling
	}
	return l[chance.Intn(len(l))]
}

// P9.1, P9.2: with another token at any place the error is where no unit can come to be, whatever stands behind it.
func TestSpoiled(t *testing.T) {
	g := read(chapters)
	for part := range 8 {
		t.Run(strconv.Itoa(part), func(t *testing.T) {
			t.Parallel()
			with := all()
			for seed := range 60 {
				m := newMaker(int64(part*100 + seed))
				m.unit()
				for i := range m.row {
					spoiled := slices.Clone(m.row)
					spoiled[i] = with[(part+seed*7+i*13)%len(with)]
					at, ok := g.reach(spoiled)
					holds(t, spoiled, at, ok)
					for j := at + 1; j < len(spoiled); j++ {
						spoiled[j] = with[(seed+j*17)%len(with)]
					}
					holds(t, spoiled, at, ok)
				}
			}
		})
	}
}

// P9.1, P9.2: with a token left out, or standing twice, likewise.
func TestOneMoreOrLess(t *testing.T) {
	g := read(chapters)
	for seed := range 200 {
		m := newMaker(int64(seed))
		m.unit()
		for i := range m.row {
			less := slices.Delete(slices.Clone(m.row), i, i+1)
			at, ok := g.reach(less)
			holds(t, less, at, ok)
			more := slices.Insert(slices.Clone(m.row), i, m.row[i])
			at, ok = g.reach(more)
			holds(t, more, at, ok)
		}
	}
}
