package types_test

import (
	"fmt"
	"strings"
	"testing"

	"separatum/api"
	"separatum/types"
)

// number tells which of the types of the world has that name.
func number(t *testing.T, l []known, name string) int {
	t.Helper()
	for i, x := range l {
		if x.name == name {
			return i
		}
	}
	t.Fatalf("no type has the name %s", name)
	return 0
}

// baseOf is the base of the type i, as the world tells it.
func baseOf(l []known, i int) int {
	if l[i].base == -1 {
		return i
	}
	return l[i].base
}

// whole tells whether the type i is whole, as the world tells it.
func whole(l []known, i int) bool {
	return l[i].sort == "int" || l[i].sort == "card" || l[i].sort == "whole"
}

// compatible tells whether i and j are, as the world tells it.
func compatible(l []known, i, j int) bool {
	if i == 0 || j == 0 {
		return false
	}
	if baseOf(l, i) == baseOf(l, j) {
		return true
	}
	if l[i].x.Kind == 16 && l[j].x.Kind == 16 && l[i].like != "" && l[i].like == l[j].like {
		return true
	}
	for _, p := range [][2]int{{i, j}, {j, i}} {
		other := l[p[1]]
		if p[0] == 5 && (other.sort == "int" || other.sort == "card") {
			return true
		}
		if p[0] == 7 && (other.x.Kind == 14 || other.x.Kind == 15 || other.x.Kind == 16) {
			return true
		}
	}
	return false
}

// P11.3: each two types of the world.
func TestCompatible(t *testing.T) {
	table, l := build(t)
	for i := range l {
		for j := range l {
			if got := table.Compatible(i, j); got != compatible(l, i, j) {
				t.Errorf("Compatible(%d %s, %d %s) is %v", i, l[i].name, j, l[j].name, got)
			}
		}
	}
}

// P11.3: pairs of types, one by one.
func TestCompatiblePairs(t *testing.T) {
	table, l := build(t)
	for _, x := range []struct {
		a, b string
		want bool
	}{
		{"INTEGER", "INTEGER", true}, {"INTEGER", "CARDINAL", false}, {"INTEGER", "whole", true}, {"whole", "CARDINAL", true},
		{"-5..5", "INTEGER", true}, {"-5..5", "INTEGER, all of it", true}, {"-5..5", "1..9", false}, {"-5..5", "CARDINAL", false},
		{"-5..5", "whole", true}, {"1..9", "whole", true}, {"whole", "whole", true}, {"whole", "CHAR", false}, {"whole", "a..z", false}, {"whole", "color", false},
		{"whole", "string", false}, {"whole", "NIL", false}, {"whole", "BITSET", false}, {"whole", "BOOLEAN", false}, {"whole", "TRUE..TRUE", false},
		{"0..15", "CARDINAL", true}, {"0..15", "1..9", true}, {"0..15", "BITSET", false}, {"BITSET", "BITSET", true}, {"BITSET", "set of color", false},
		{"CHAR", "a..z", true}, {"CHAR", "string", false}, {"string", "string", true}, {"string", "array 1..9 of CHAR", false}, {"string", "open of CHAR", false},
		{"BOOLEAN", "TRUE..TRUE", true}, {"color", "green..blue", true}, {"color", "size", false}, {"green..blue", "size", false},
		{"NIL", "NIL", true}, {"NIL", "pointer to record", true}, {"NIL", "opaque", true}, {"NIL", "()", true}, {"NIL", "(nothing)", true},
		{"NIL", "forward", false}, {"NIL", "record", false}, {"NIL", "INTEGER", false}, {"NIL", "string", false}, {"NIL", "BITSET", false},
		{"record", "record", true}, {"pointer to record", "record", false}, {"opaque", "another one", false}, {"forward", "forward", true},
		{"(INTEGER)", "(INTEGER) once more", true}, {"(INTEGER)", "(VAR INTEGER)", false}, {"(nothing)", "(nothing)", true}, {"(nothing)", "(nothing) once more", false},
		{"open of CHAR", "open of CHAR", true}, {"from a record on", "record", true}, {"nothing", "nothing", false}, {"nothing", "INTEGER", false},
	} {
		a, b := number(t, l, x.a), number(t, l, x.b)
		if table.Compatible(a, b) != x.want || table.Compatible(b, a) != x.want {
			t.Errorf("%s and %s: %v, the other way about %v", x.a, x.b, table.Compatible(a, b), table.Compatible(b, a))
		}
	}
	for _, i := range []int{16, 21, 27, 29, 31, 33, 35} {
		if table.Compatible(i, i+1) || !table.Compatible(i, i) || !table.Compatible(i+1, i+1) {
			t.Errorf("%s and %s are compatible, or not with themselves", l[i].name, l[i+1].name)
		}
	}
}

// P11.3, P11.4: what is no type fits nothing, not even itself.
func TestNoneFits(t *testing.T) {
	table, l := build(t)
	none := []int{-1 << 62, -1, 0, len(l), len(l) + 1, 1023, 1024, 1 << 40}
	vals := []any{nil, api.Whole(1), api.Letter(1), api.String("a"), api.String(""), api.Null{}, api.Bits(1)}
	for _, i := range none {
		others := append([]int(nil), none...)
		for j := range l {
			others = append(others, j)
		}
		for _, j := range others {
			if table.Compatible(i, j) || table.Compatible(j, i) {
				t.Errorf("%d, which is none, is compatible with %d", i, j)
			}
			for _, v := range vals {
				if table.Assignable(i, j, v) || table.Assignable(j, i, v) {
					t.Errorf("%d, which is none, and %d are assignable, with %#v", i, j, v)
				}
				for _, by := range []bool{false, true} {
					if table.Passes(api.Param{Var: by, Type: i}, j, v) {
						t.Errorf("%d passes as %d, which is none, with %#v", j, i, v)
					}
					if table.Passes(api.Param{Var: by, Type: j}, i, v) {
						t.Errorf("%d, which is none, passes as %d, with %#v", i, j, v)
					}
				}
			}
		}
	}
}

// P11.3, P11.4: what is no type fits nothing, not even what is a part of it.
func TestNoneFitsItsParts(t *testing.T) {
	table := types.New()
	for _, none := range []int{0, -1, 1000, 1 << 40} {
		s := add(t, table, api.Type{Kind: api.KindSub, Base: none, Low: 1, High: 3})
		if table.Compatible(none, s) || table.Compatible(s, none) || table.Assignable(none, s, nil) || table.Assignable(s, none, nil) || table.Alike(none, s) {
			t.Errorf("%d, which is none, fits a subrange of it", none)
		}
	}
}

// value is one, with its number, if it has one.
type value struct {
	v   any
	n   int64
	has bool
}

// values are some of each sort, those at the edges of the world's types among them; and what is none.
func values() []value {
	l := []value{
		{v: nil}, {v: api.Null{}}, {v: api.Bits(0)}, {v: api.Bits(1)}, {v: api.Bits(65535)},
		{v: api.Truth(false), n: 0, has: true}, {v: api.Truth(true), n: 1, has: true},
		{v: 1}, {v: "a"}, {v: 'a'}, {v: true}, {v: 1.5}, {v: []int{1}}, {v: struct{}{}}, {v: map[string]int{}},
	}
	for _, n := range []int64{-32768, -32767, -6, -5, -1, 0, 1, 2, 3, 5, 6, 9, 10, 15, 16, 96, 97, 122, 123, 255, 256, 32767, 32768, 65535} {
		l = append(l, value{api.Whole(n), n, true})
	}
	for _, n := range []int64{0, 1, 2, 3, 96, 97, 122, 123, 255} {
		l = append(l, value{api.Letter(n), n, true}, value{api.String([]byte{byte(n)}), n, true})
	}
	for _, n := range []int64{-1, 0, 1, 2, 3} {
		l = append(l, value{api.Item{Type: color, N: n}, n, true}, value{api.Item{Type: 69, N: n}, n, true})
	}
	for _, n := range []int{0, 2, 3, 4, 9, 10, 11, 12, 255, 256, 257, 300} {
		l = append(l, value{v: api.String(strings.Repeat("x", n))})
	}
	return l
}

// elements are how many those arrays of the world have whose elements are characters.
func elements(name string) (int, bool) {
	n := map[string]int{
		"array 1..9 of CHAR": 9, "array BOOLEAN of a..z": 2, "array CHAR of CHAR": 256,
		"array color of CHAR": 3, "array -5..5 of CHAR": 11, "array 0..0 of CHAR": 1,
	}[name]
	return n, n > 0
}

// assignable tells whether x may be assigned, as the world tells it.
func assignable(l []known, to, from int, x value) bool {
	if to == 0 || to == 5 || to == 6 || to == 7 || l[to].x.Kind == 11 {
		return false
	}
	fits := compatible(l, to, from) || whole(l, to) && whole(l, from)
	if x.has && l[to].sort != "" && (l[from].sort != "" || from == 6) {
		return x.n >= l[to].low && x.n <= l[to].high && (fits || from == 6 && l[to].sort == "char")
	}
	name := l[to].name
	if to == row+1 {
		name = l[row].name
	}
	n, is := elements(name)
	if s, ok := x.v.(api.String); ok && is && from == 6 {
		return len(s) <= n
	}
	return fits
}

// P11.4: each two types of the world, with each value.
func TestAssignable(t *testing.T) {
	table, l := build(t)
	for _, x := range values() {
		for to := range l {
			for from := range l {
				if got := table.Assignable(to, from, x.v); got != assignable(l, to, from, x) {
					t.Fatalf("Assignable(%d %s, %d %s, %#v) is %v", to, l[to].name, from, l[from].name, x.v, got)
				}
			}
		}
	}
}

// P11.4: types and values, one by one.
func TestAssignableRows(t *testing.T) {
	table, l := build(t)
	for _, x := range []struct {
		to, from string
		v        any
		want     bool
	}{
		{"INTEGER", "INTEGER", nil, true}, {"INTEGER", "CARDINAL", nil, true}, {"CARDINAL", "INTEGER", nil, true}, {"1..9", "INTEGER", nil, true}, {"-5..5", "CARDINAL", nil, true},
		{"INTEGER", "whole", api.Whole(32767), true}, {"INTEGER", "whole", api.Whole(32768), false}, {"INTEGER", "whole", api.Whole(-32768), true},
		{"CARDINAL", "whole", api.Whole(65535), true}, {"CARDINAL", "whole", api.Whole(0), true}, {"CARDINAL", "whole", api.Whole(-1), false},
		{"CARDINAL", "INTEGER", api.Whole(-1), false}, {"CARDINAL", "INTEGER", api.Whole(1), true}, {"INTEGER", "CARDINAL", api.Whole(40000), false}, {"INTEGER", "CARDINAL", api.Whole(400), true},
		{"1..9", "whole", api.Whole(0), false}, {"1..9", "whole", api.Whole(1), true}, {"1..9", "whole", api.Whole(9), true}, {"1..9", "-5..5", api.Whole(10), false}, {"1..9", "-5..5", api.Whole(4), true},
		{"whole", "INTEGER", nil, false}, {"whole", "whole", api.Whole(1), false}, {"whole", "CARDINAL", api.Whole(1), false},
		{"BOOLEAN", "BOOLEAN", api.Truth(true), true}, {"TRUE..TRUE", "BOOLEAN", api.Truth(true), true}, {"TRUE..TRUE", "BOOLEAN", api.Truth(false), false}, {"TRUE..TRUE", "BOOLEAN", nil, true},
		{"BOOLEAN", "whole", api.Whole(1), false}, {"CHAR", "whole", api.Whole(65), false}, {"CARDINAL", "CHAR", api.Letter(65), false}, {"color", "whole", api.Whole(1), false},
		{"CHAR", "CHAR", api.Letter(255), true}, {"a..z", "CHAR", api.Letter('a'), true}, {"a..z", "CHAR", api.Letter('A'), false}, {"CHAR", "a..z", api.Letter('a'), true}, {"a..z", "CHAR", nil, true},
		{"CHAR", "string", api.String("A"), true}, {"a..z", "string", api.String("a"), true}, {"a..z", "string", api.String("A"), false}, {"CHAR", "string", api.String("ab"), false}, {"CHAR", "string", api.String(""), false}, {"CHAR", "string", nil, false},
		{"INTEGER", "string", api.String("A"), false}, {"BOOLEAN", "string", api.String("\x01"), false}, {"color", "string", api.String("\x01"), false},
		{"color", "color", api.Item{Type: color, N: 2}, true}, {"green..blue", "color", api.Item{Type: color}, false}, {"green..blue", "color", api.Item{Type: color, N: 1}, true}, {"color", "size", api.Item{Type: 69, N: 1}, false}, {"color", "size", nil, false},
		{"array 1..9 of CHAR", "string", api.String("123456789"), true}, {"array 1..9 of CHAR", "string", api.String("123456789A"), false}, {"array 1..9 of CHAR", "string", api.String(""), true}, {"array 1..9 of CHAR", "string", api.String("1"), true},
		{"array 1..9 of CHAR", "string", nil, false}, {"array 1..9 of CHAR", "CHAR", api.String("1"), false}, {"array 1..9 of CHAR", "CHAR", api.Letter('1'), false}, {"array 1..9 of CHAR", "array 1..9 of CHAR", nil, true}, {"array 1..9 of CHAR", "string", api.Letter('1'), false},
		{"array BOOLEAN of a..z", "string", api.String("AB"), true}, {"array BOOLEAN of a..z", "string", api.String("ABC"), false}, {"array 0..0 of CHAR", "string", api.String("A"), true}, {"array 0..0 of CHAR", "string", api.String("AB"), false},
		{"array -5..5 of INTEGER", "string", api.String("A"), false}, {"array -5..5 of INTEGER", "string", api.String(""), false}, {"array 1..9 of BITSET", "string", api.String(""), false}, {"open of CHAR", "string", api.String("A"), false}, {"open of CHAR", "open of CHAR", nil, false},
		{"string", "string", api.String("A"), false}, {"NIL", "NIL", api.Null{}, false}, {"pointer to record", "NIL", api.Null{}, true}, {"opaque", "NIL", api.Null{}, true}, {"()", "NIL", api.Null{}, true}, {"record", "NIL", api.Null{}, false},
		{"BITSET", "BITSET", api.Bits(7), true}, {"BITSET", "set of color", api.Bits(7), false}, {"record", "record", nil, true}, {"(INTEGER)", "(INTEGER) once more", nil, true}, {"(INTEGER)", "(CARDINAL)", nil, false},
		{"forward", "forward", nil, true}, {"nothing", "nothing", nil, false}, {"record", "nothing", nil, false}, {"INTEGER", "nothing", nil, false},
	} {
		if got := table.Assignable(number(t, l, x.to), number(t, l, x.from), x.v); got != x.want {
			t.Errorf("Assignable(%s, %s, %#v) is %v", x.to, x.from, x.v, got)
		}
	}
	if !types.New().Assignable(api.TypeChar, api.TypeStr, api.String("a")) || !types.New().Compatible(api.TypeWhole, api.TypeCard) {
		t.Error("the chapter's examples")
	}
}

// P11.4: how many elements an array has hangs on its index, however far that goes.
func TestRoom(t *testing.T) {
	table := types.New()
	for _, low := range []int64{-1 << 31, -32768, -3, -1, 0, 1, 7, 65000} {
		for _, n := range []int64{1, 2, 3, 200, 32768, 65536, 1<<31 - 65000} {
			s := add(t, table, api.Type{Kind: api.KindSub, Base: 1 + int(low&1), Low: low, High: low + n - 1})
			a := add(t, table, api.Type{Kind: api.KindArray, Base: api.TypeChar, Index: s})
			for _, m := range []int64{0, 1, 2, 3, 4, 199, 200, 201, 32767, 32768, 32769, 65535} {
				if got := table.Assignable(a, api.TypeStr, api.String(strings.Repeat("\x00", int(m)))); got != (m <= n) {
					t.Fatalf("a string of %d bytes, an array from %d to %d: %v", m, low, low+n-1, got)
				}
			}
		}
	}
}

// passes tells whether x may be passed, as the world tells it.
func passes(l []known, p api.Param, from int, x value) bool {
	a, b := l[p.Type].x, l[from].x
	if a.Kind == 11 {
		_, letter := x.v.(api.Letter)
		return (b.Kind == 10 || b.Kind == 11) && a.Base == b.Base || !p.Var && a.Base == 4 && (from == 6 || from == 4 && letter)
	}
	if p.Var {
		return p.Type == from && from != 0
	}
	return assignable(l, p.Type, from, x)
}

// P11.4: each parameter, of each type of the world, with each value.
func TestPasses(t *testing.T) {
	table, l := build(t)
	for _, x := range values() {
		_, letter := x.v.(api.Letter)
		for to := range l {
			for from := range l {
				if l[to].x.Kind == 11 && letter && from != 4 && l[from].sort == "char" {
					continue // a Letter is of CHAR itself here
				}
				for _, by := range []bool{false, true} {
					p := api.Param{Var: by, Type: to}
					if got := table.Passes(p, from, x.v); got != passes(l, p, from, x) {
						t.Fatalf("Passes(%v %s, %d %s, %#v) is %v", p, l[to].name, from, l[from].name, x.v, got)
					}
				}
			}
		}
	}
}

// P11.4: parameters, one by one.
func TestPassesRows(t *testing.T) {
	table, l := build(t)
	for _, x := range []struct {
		by       bool
		to, from string
		v        any
		want     bool
	}{
		{false, "open of CHAR", "array 1..9 of CHAR", nil, true}, {true, "open of CHAR", "array 1..9 of CHAR", nil, true}, {true, "open of CHAR", "open of CHAR", nil, true}, {false, "open of CHAR", "open of CHAR", nil, true},
		{false, "open of CHAR", "array BOOLEAN of a..z", nil, false}, {true, "open of a..z", "array BOOLEAN of a..z", nil, true}, {true, "open of INTEGER", "array -5..5 of INTEGER", nil, true}, {false, "open of INTEGER", "array 1..9 of CHAR", nil, false},
		{false, "open of arrays", "array TRUE..TRUE of arrays", nil, true}, {false, "open of others", "array TRUE..TRUE of arrays", nil, false}, {false, "open of INTEGER", "INTEGER", nil, false}, {false, "open of CHAR", "CHAR", nil, false},
		{false, "open of CHAR", "string", api.String("abc"), true}, {false, "open of CHAR", "string", api.String(""), true}, {false, "open of CHAR", "string", api.String("a"), true}, {true, "open of CHAR", "string", api.String("abc"), false},
		{false, "open of CHAR", "CHAR", api.Letter('a'), true}, {true, "open of CHAR", "CHAR", api.Letter('a'), false}, {false, "open of CHAR", "CHAR", api.String("a"), false}, {false, "open of a..z", "string", api.String("abc"), false},
		{false, "open of a..z", "CHAR", api.Letter('a'), false}, {false, "open of INTEGER", "string", api.String("abc"), false}, {false, "open of INTEGER", "CHAR", api.Letter('a'), false}, {false, "open of CHAR", "whole", api.Whole(1), false}, {false, "open of CHAR", "nothing", nil, false},
		{false, "open of CHAR", "pointer to record", nil, false}, {false, "open of CHAR", "a..z", nil, false}, {false, "open of arrays", "array 1..9 of CHAR", nil, false}, {true, "open of CHAR", "CHAR", nil, false},
		{true, "INTEGER", "INTEGER", nil, true}, {true, "INTEGER", "CARDINAL", nil, false}, {true, "INTEGER", "-5..5", nil, false}, {true, "-5..5", "INTEGER", nil, false}, {true, "INTEGER", "INTEGER, all of it", nil, false}, {true, "INTEGER", "whole", api.Whole(1), false},
		{true, "-5..5", "-5..5", nil, true}, {true, "CHAR", "CHAR", nil, true}, {true, "CHAR", "string", api.String("a"), false}, {true, "array 1..9 of CHAR", "string", api.String("a"), false}, {true, "array 1..9 of CHAR", "array 1..9 of CHAR", nil, true},
		{true, "(INTEGER)", "(INTEGER)", nil, true}, {true, "(INTEGER)", "(INTEGER) once more", nil, false}, {true, "pointer to record", "NIL", api.Null{}, false}, {true, "record", "record", nil, true}, {true, "nothing", "nothing", nil, false}, {true, "forward", "forward", nil, true},
		{false, "INTEGER", "CARDINAL", nil, true}, {false, "INTEGER", "whole", api.Whole(40000), false}, {false, "CHAR", "string", api.String("a"), true}, {false, "array 1..9 of CHAR", "string", api.String("abc"), true}, {false, "array 1..9 of CHAR", "CHAR", api.Letter('a'), false},
		{false, "(INTEGER)", "(INTEGER) once more", nil, true}, {false, "pointer to record", "NIL", api.Null{}, true}, {false, "nothing", "nothing", nil, false}, {false, "whole", "whole", api.Whole(1), false},
	} {
		p := api.Param{Var: x.by, Type: number(t, l, x.to)}
		if got := table.Passes(p, number(t, l, x.from), x.v); got != x.want {
			t.Errorf("Passes(Var %v %s, %s, %#v) is %v", x.by, x.to, x.from, x.v, got)
		}
	}
}

// P11.1: what only asks changes nothing.
func TestAskingChangesNothing(t *testing.T) {
	table, l := build(t)
	var before []string
	for i := range l {
		before = append(before, text(table.Get(i)))
	}
	for i := -1; i <= len(l); i++ {
		table.Base(i)
		table.Range(i)
		table.Ordinal(i)
		table.Number(i)
		for j := -1; j <= len(l); j++ {
			table.Alike(i, j)
			table.Compatible(i, j)
			table.Assignable(i, j, api.String("a"))
			table.Passes(api.Param{Type: i}, j, nil)
		}
	}
	for i := range l {
		if got := text(table.Get(i)); got != before[i] {
			t.Fatalf("%s has become %s", before[i], got)
		}
	}
	if table.Len() != len(l) {
		t.Fatal(fmt.Sprint("there are ", table.Len(), " types now"))
	}
}
