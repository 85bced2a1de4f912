package types_test

import (
	"testing"

	"separatum/api"
	"separatum/types"
)

// known is a type, with what the chapter tells of it.
type known struct {
	name      string
	x         api.Type
	base      int    // its base; -1: the type itself
	sort      string // of what it is ordinal; nothing, if it is not
	low, high int64
	like      string // what it shares with those that it is alike; nothing: it is alike to none but itself
}

// The types of the world that others of it name, by their numbers.
const (
	color  = 10
	digits = 12
	small  = 14
	row    = 16
	openC  = 21
	record = 27
)

// world has types of each kind, and some that differ from each other in one thing alone.
func world() []known {
	return []known{
		{"nothing", api.Type{}, -1, "", 0, 0, ""},
		{"INTEGER", api.Type{}, -1, "int", -32768, 32767, ""},
		{"CARDINAL", api.Type{}, -1, "card", 0, 65535, ""},
		{"BOOLEAN", api.Type{}, -1, "bool", 0, 1, ""},
		{"CHAR", api.Type{}, -1, "char", 0, 255, ""},
		{"whole", api.Type{}, -1, "whole", -32768, 65535, ""},
		{"string", api.Type{}, -1, "", 0, 0, ""},
		{"NIL", api.Type{}, -1, "", 0, 0, ""},
		{"0..15", api.Type{}, 2, "card", 0, 15, ""},
		{"BITSET", api.Type{}, -1, "", 0, 0, ""},

		{"color", api.Type{Kind: 8, Name: "color", High: 2, Names: []string{"red", "green", "blue"}}, -1, "color", 0, 2, ""},
		{"-5..5", api.Type{Kind: 9, Base: 1, Low: -5, High: 5}, 1, "int", -5, 5, ""},
		{"1..9", api.Type{Kind: 9, Base: 2, Low: 1, High: 9}, 2, "card", 1, 9, ""},
		{"TRUE..TRUE", api.Type{Kind: 9, Base: 3, Low: 1, High: 1}, 3, "bool", 1, 1, ""},
		{"a..z", api.Type{Kind: 9, Base: 4, Low: 97, High: 122}, 4, "char", 97, 122, ""},
		{"green..blue", api.Type{Kind: 9, Base: color, Low: 1, High: 2}, color, "color", 1, 2, ""},

		{"array 1..9 of CHAR", api.Type{Kind: 10, Base: 4, Index: digits}, -1, "", 0, 0, ""},
		{"the same once more", api.Type{Kind: 10, Base: 4, Index: digits}, -1, "", 0, 0, ""},
		{"array BOOLEAN of a..z", api.Type{Kind: 10, Base: small, Index: 3}, -1, "", 0, 0, ""},
		{"array -5..5 of INTEGER", api.Type{Kind: 10, Base: 1, Index: 11}, -1, "", 0, 0, ""},
		{"array TRUE..TRUE of arrays", api.Type{Kind: 10, Base: row, Index: 13}, -1, "", 0, 0, ""},

		{"open of CHAR", api.Type{Kind: 11, Base: 4}, -1, "", 0, 0, "open 4"},
		{"the same once more", api.Type{Kind: 11, Base: 4}, -1, "", 0, 0, "open 4"},
		{"open of INTEGER", api.Type{Kind: 11, Base: 1}, -1, "", 0, 0, "open 1"},
		{"open of a..z", api.Type{Kind: 11, Base: small}, -1, "", 0, 0, "open small"},
		{"open of arrays", api.Type{Kind: 11, Base: row}, -1, "", 0, 0, "open row"},
		{"open of others", api.Type{Kind: 11, Base: row + 1}, -1, "", 0, 0, "open other row"},

		{"record", api.Type{Kind: 12, Fields: []api.Field{{Name: "a", Type: 1}}}, -1, "", 0, 0, ""},
		{"the same once more", api.Type{Kind: 12, Fields: []api.Field{{Name: "a", Type: 1}}}, -1, "", 0, 0, ""},
		{"set of color", api.Type{Kind: 13, Base: color}, -1, "", 0, 0, ""},
		{"the same once more", api.Type{Kind: 13, Base: color}, -1, "", 0, 0, ""},
		{"pointer to record", api.Type{Kind: 14, Base: record}, -1, "", 0, 0, ""},
		{"the same once more", api.Type{Kind: 14, Base: record}, -1, "", 0, 0, ""},
		{"opaque", api.Type{Kind: 15, Module: "m", Name: "t"}, -1, "", 0, 0, ""},
		{"another one", api.Type{Kind: 15, Module: "m", Name: "u"}, -1, "", 0, 0, ""},
		{"forward", api.Type{Kind: 17, Name: "f"}, -1, "", 0, 0, ""},
		{"another one", api.Type{Kind: 17, Name: "f"}, -1, "", 0, 0, ""},

		{"()", api.Type{Kind: 16}, -1, "", 0, 0, "()"},
		{"() once more", api.Type{Kind: 16, Name: "p", Module: "m"}, -1, "", 0, 0, "()"},
		{"(): INTEGER", api.Type{Kind: 16, Result: 1}, -1, "", 0, 0, "():1"},
		{"(): CARDINAL", api.Type{Kind: 16, Result: 2}, -1, "", 0, 0, "():2"},
		{"(INTEGER)", api.Type{Kind: 16, Params: []api.Param{{Type: 1}}}, -1, "", 0, 0, "(1)"},
		{"(INTEGER) once more", api.Type{Kind: 16, Params: []api.Param{{Type: 1}}}, -1, "", 0, 0, "(1)"},
		{"(VAR INTEGER)", api.Type{Kind: 16, Params: []api.Param{{Var: true, Type: 1}}}, -1, "", 0, 0, "(v1)"},
		{"(VAR INTEGER) once more", api.Type{Kind: 16, Params: []api.Param{{Var: true, Type: 1}}}, -1, "", 0, 0, "(v1)"},
		{"(CARDINAL)", api.Type{Kind: 16, Params: []api.Param{{Type: 2}}}, -1, "", 0, 0, "(2)"},
		{"(-5..5)", api.Type{Kind: 16, Params: []api.Param{{Type: 11}}}, -1, "", 0, 0, "(11)"},
		{"(INTEGER, CHAR)", api.Type{Kind: 16, Params: []api.Param{{Type: 1}, {Type: 4}}}, -1, "", 0, 0, "(1, 4)"},
		{"(INTEGER, CHAR) once more", api.Type{Kind: 16, Params: []api.Param{{Type: 1}, {Type: 4}}}, -1, "", 0, 0, "(1, 4)"},
		{"(CHAR, INTEGER)", api.Type{Kind: 16, Params: []api.Param{{Type: 4}, {Type: 1}}}, -1, "", 0, 0, "(4, 1)"},
		{"(INTEGER, VAR CHAR)", api.Type{Kind: 16, Params: []api.Param{{Type: 1}, {Var: true, Type: 4}}}, -1, "", 0, 0, "(1, v4)"},
		{"(INTEGER, CHAR): CHAR", api.Type{Kind: 16, Result: 4, Params: []api.Param{{Type: 1}, {Type: 4}}}, -1, "", 0, 0, "(1, 4):4"},
		{"(array)", api.Type{Kind: 16, Params: []api.Param{{Type: row}}}, -1, "", 0, 0, "(row)"},
		{"(the other array)", api.Type{Kind: 16, Params: []api.Param{{Type: row + 1}}}, -1, "", 0, 0, "(other row)"},
		{"(open of CHAR)", api.Type{Kind: 16, Params: []api.Param{{Type: openC}}}, -1, "", 0, 0, "(open 4)"},
		{"(the other open of CHAR)", api.Type{Kind: 16, Params: []api.Param{{Type: openC + 1}}}, -1, "", 0, 0, "(open 4)"},
		{"(open of INTEGER)", api.Type{Kind: 16, Params: []api.Param{{Type: openC + 2}}}, -1, "", 0, 0, "(open 1)"},
		{"((INTEGER))", api.Type{Kind: 16, Params: []api.Param{{Type: 41}}}, -1, "", 0, 0, "((1))"},
		{"((INTEGER) once more)", api.Type{Kind: 16, Params: []api.Param{{Type: 42}}}, -1, "", 0, 0, "((1))"},
		{"((VAR INTEGER))", api.Type{Kind: 16, Params: []api.Param{{Type: 43}}}, -1, "", 0, 0, "((v1))"},
		{"(): (INTEGER)", api.Type{Kind: 16, Result: 41}, -1, "", 0, 0, "():41"},
		{"(): (INTEGER) once more", api.Type{Kind: 16, Result: 42}, -1, "", 0, 0, "():42"},
		{"(nothing)", api.Type{Kind: 16, Params: []api.Param{{Type: 0}}}, -1, "", 0, 0, ""},
		{"(nothing) once more", api.Type{Kind: 16, Params: []api.Param{{Type: 0}}}, -1, "", 0, 0, ""},
		{"(INTEGER, none)", api.Type{Kind: 16, Params: []api.Param{{Type: 1}, {Type: 999}}}, -1, "", 0, 0, ""},
		{"(INTEGER, none) once more", api.Type{Kind: 16, Params: []api.Param{{Type: 1}, {Type: 999}}}, -1, "", 0, 0, ""},
		{"((nothing))", api.Type{Kind: 16, Params: []api.Param{{Type: 62}}}, -1, "", 0, 0, "(62)"},
		{"((nothing)), of the same one", api.Type{Kind: 16, Params: []api.Param{{Type: 62}}}, -1, "", 0, 0, "(62)"},
		{"((nothing)), of the other one", api.Type{Kind: 16, Params: []api.Param{{Type: 63}}}, -1, "", 0, 0, "(63)"},

		{"size", api.Type{Kind: 8, Name: "size", High: 2, Names: []string{"red", "green", "blue"}}, -1, "size", 0, 2, ""},
		{"from a record on", api.Type{Kind: 9, Base: record, Low: 1, High: 3}, record, "", 0, 0, ""},
		{"from a forward one on", api.Type{Kind: 9, Base: 35, Low: 1, High: 3}, 35, "", 0, 0, ""},
		{"CHAR, all of it", api.Type{Kind: 9, Base: 4, High: 255}, 4, "char", 0, 255, ""},
		{"INTEGER, all of it", api.Type{Kind: 9, Base: 1, Low: -32768, High: 32767}, 1, "int", -32768, 32767, ""},
		{"CARDINAL, all of it", api.Type{Kind: 9, Base: 2, Low: 0, High: 65535}, 2, "card", 0, 65535, ""},
		{"array CHAR of CHAR", api.Type{Kind: 10, Base: 4, Index: 4}, -1, "", 0, 0, ""},
		{"array color of CHAR", api.Type{Kind: 10, Base: 4, Index: color}, -1, "", 0, 0, ""},
		{"array -5..5 of CHAR", api.Type{Kind: 10, Base: 4, Index: 11}, -1, "", 0, 0, ""},
		{"array 0..0 of CHAR", api.Type{Kind: 10, Base: 4, Index: 80}, -1, "", 0, 0, ""},
		{"array 1..9 of BITSET", api.Type{Kind: 10, Base: 9, Index: digits}, -1, "", 0, 0, ""},
		{"0..0", api.Type{Kind: 9, Base: 2}, 2, "card", 0, 0, ""},
	}
}

// build makes the world's table.
func build(t *testing.T) (*types.Table, []known) {
	t.Helper()
	table, l := types.New(), world()
	for i := api.TypeFirst; i < len(l); i++ {
		if n := add(t, table, l[i].x); n != i {
			t.Fatalf("%s is %d, not %d", l[i].name, n, i)
		}
	}
	return table, l
}

// P11.2: of each type, of whatever kind.
func TestKinds(t *testing.T) {
	table, l := build(t)
	for i, x := range l {
		base := x.base
		if base == -1 {
			base = i
		}
		if got := table.Base(i); got != base {
			t.Errorf("Base of %s is %d, not %d", x.name, got, base)
		}
		if got := table.Ordinal(i); got != (x.sort != "") {
			t.Errorf("Ordinal of %s is %v", x.name, got)
		}
		if got := table.Number(i); got != (x.sort == "int" || x.sort == "card" || x.sort == "whole") {
			t.Errorf("Number of %s is %v", x.name, got)
		}
		low, high, is := table.Range(i)
		if low != x.low || high != x.high || is != (x.sort != "") {
			t.Errorf("Range of %s is %d, %d, %v", x.name, low, high, is)
		}
	}
}

// P11.2: of numbers that are none.
func TestKindsOfNone(t *testing.T) {
	table, l := build(t)
	for _, i := range []int{-1 << 62, -1 << 31, -2, -1, len(l), len(l) + 1, 1023, 1024, 1 << 31, 1<<62 + 3} {
		low, high, is := table.Range(i)
		if table.Base(i) != i || table.Ordinal(i) || table.Number(i) || low != 0 || high != 0 || is {
			t.Errorf("of %d, which is none: Base %d, Ordinal %v, Number %v, Range %d, %d, %v", i, table.Base(i), table.Ordinal(i), table.Number(i), low, high, is)
		}
	}
}

// P11.2: kinds hang on what a type has become.
func TestKindsSet(t *testing.T) {
	table := types.New()
	f := add(t, table, api.Type{Kind: api.KindForward, Name: "f"})
	s := add(t, table, api.Type{Kind: api.KindSub, Base: f, Low: 2, High: 4})
	if table.Ordinal(f) || table.Ordinal(s) || table.Base(s) != f {
		t.Fatalf("a forward type is ordinal, or is not the base")
	}
	if e := table.Set(f, api.Type{Kind: api.KindEnum, High: 5, Names: []string{"a", "b", "c", "d", "e", "f"}}); e != api.OK {
		t.Fatalf("Set is %d", e)
	}
	low, high, is := table.Range(s)
	if !table.Ordinal(f) || !table.Ordinal(s) || low != 2 || high != 4 || !is {
		t.Fatalf("an enumeration that was a forward type is not ordinal: %d, %d, %v", low, high, is)
	}
	if low, high, is = table.Range(f); low != 0 || high != 5 || !is || table.Number(f) {
		t.Fatalf("Range of an enumeration that was a forward type is %d, %d, %v", low, high, is)
	}
}

// P11.2: ranges are what the types say, however far they go.
func TestRanges(t *testing.T) {
	table := types.New()
	for _, of := range []int{1, 2, 3, 4} {
		for _, low := range []int64{-1 << 31, -40000, -1, 0, 1, 300, 1<<31 - 1} {
			for _, high := range []int64{-1 << 31, -40000, -1, 0, 1, 300, 1<<31 - 1} {
				if low > high {
					continue
				}
				s := add(t, table, api.Type{Kind: api.KindSub, Base: of, Low: low, High: high})
				if a, b, is := table.Range(s); a != low || b != high || !is {
					t.Fatalf("Range of %d to %d is %d, %d, %v", low, high, a, b, is)
				}
				if of > 1 {
					continue
				}
				n := add(t, table, api.Type{Kind: api.KindEnum, Low: low, High: high})
				if a, b, is := table.Range(n); a != low || b != high || !is {
					t.Fatalf("Range of an enumeration from %d to %d is %d, %d, %v", low, high, a, b, is)
				}
			}
		}
	}
}
