package types_test

import (
	"fmt"
	"strconv"
	"testing"

	"separatum/api"
	"separatum/types"
)

// always are the types that are always there, by their numbers.
func always() []api.Type {
	return []api.Type{
		{},
		{Kind: 1, Name: "INTEGER"},
		{Kind: 2, Name: "CARDINAL"},
		{Kind: 3, Name: "BOOLEAN"},
		{Kind: 4, Name: "CHAR"},
		{Kind: 5},
		{Kind: 6},
		{Kind: 7},
		{Kind: 9, Base: 2, High: 15},
		{Kind: 13, Name: "BITSET", Base: 8},
	}
}

// full is a type that has all there is, made anew each time. What it is made of hangs on n.
func full(n int) api.Type {
	s := strconv.Itoa(n)
	return api.Type{
		Kind: api.KindRec, Module: "m" + s, Name: "n" + s, Base: n, Index: n + 1, Low: int64(n) + 2, High: int64(n) + 3,
		Names:  []string{"a" + s, "b" + s, "c" + s},
		Fields: []api.Field{{Name: "f" + s, Type: n + 4, Arm: 1}, {Name: "g" + s, Type: n + 5, Arm: 2}},
		Arms:   []api.Arm{{From: []int64{int64(n) + 6, 7}, To: []int64{int64(n) + 8, 9}}, {Else: true, From: []int64{int64(n)}}},
		Params: []api.Param{{Var: true, Type: n + 10}, {Type: n + 11}},
		Result: n + 12,
	}
}

// spoil changes whatever the lists of x have.
func spoil(x api.Type) {
	for i := range x.Names {
		x.Names[i] += "?"
	}
	for i := range x.Fields {
		x.Fields[i] = api.Field{Name: "?", Type: -1, Arm: -1}
	}
	for i := range x.Arms {
		for j := range x.Arms[i].From {
			x.Arms[i].From[j]--
		}
		for j := range x.Arms[i].To {
			x.Arms[i].To[j]--
		}
		x.Arms[i] = api.Arm{Else: !x.Arms[i].Else}
	}
	for i := range x.Params {
		x.Params[i] = api.Param{Var: !x.Params[i].Var, Type: -1}
	}
}

// text tells all of x; it tells no difference between a list that is missing and one without elements.
func text(x api.Type) string {
	return fmt.Sprintf("%d %q %q %d %d %d %d %q %v %v %v %d", x.Kind, x.Module, x.Name, x.Base, x.Index, x.Low, x.High, x.Names, x.Fields, x.Arms, x.Params, x.Result)
}

// is holds what the table has against l.
func is(t *testing.T, table *types.Table, l []api.Type, what string) {
	t.Helper()
	if n := table.Len(); n != len(l) {
		t.Fatalf("%s: Len() is %d, not %d", what, n, len(l))
	}
	for i, x := range l {
		if got := text(table.Get(i)); got != text(x) {
			t.Fatalf("%s: Get(%d) is %s, not %s", what, i, got, text(x))
		}
	}
	for _, i := range []int{-1 << 62, -1 << 31, -10, -2, -1, len(l), len(l) + 1, len(l) + 10, 1024, 1025, 1 << 16, 1 << 31, 1<<62 + 1} {
		if got := text(table.Get(i)); i >= len(l) && got != text(api.Type{}) || i < 0 && got != text(api.Type{}) {
			t.Fatalf("%s: Get(%d) is %s: there is none", what, i, got)
		}
	}
}

// add adds x, which may be added.
func add(t *testing.T, table *types.Table, x api.Type) int {
	t.Helper()
	n, e := table.Add(x)
	if e != api.OK {
		t.Fatalf("Add(%s) is %d, %d", text(x), n, e)
	}
	return n
}

// P11.1: those that are always there.
func TestNew(t *testing.T) {
	is(t, types.New(), always(), "New()")
	a, b := types.New(), types.New()
	add(t, a, full(1))
	is(t, b, always(), "another table")
	is(t, types.New(), always(), "a table made behind it")
}

// P11.1: each kind, from KindEnum to KindForward and beyond.
func TestAddKinds(t *testing.T) {
	table, l := types.New(), always()
	for k := 0; k < 256; k++ {
		x := full(k)
		x.Kind = uint8(k)
		n, e := table.Add(x)
		if k < 8 || k > 17 {
			if n != 0 || e != api.ErrArg {
				t.Fatalf("Add of kind %d is %d, %d", k, n, e)
			}
		} else {
			if n != len(l) || e != api.OK {
				t.Fatalf("Add of kind %d is %d, %d", k, n, e)
			}
			l = append(l, x)
		}
		is(t, table, l, "behind kind "+strconv.Itoa(k))
	}
}

// P11.1: as many as may be, and one more.
func TestAddFull(t *testing.T) {
	table, l := types.New(), always()
	for len(l) < 1024 {
		x := full(len(l))
		x.Kind = uint8(8 + len(l)%10)
		if n, e := table.Add(x); n != len(l) || e != api.OK {
			t.Fatalf("Add ahead of which %d are there: %d, %d", len(l), n, e)
		}
		l = append(l, x)
	}
	for i := 0; i < 3; i++ {
		if n, e := table.Add(full(1)); n != 0 || e != api.ErrFull {
			t.Fatalf("Add ahead of which all are there: %d, %d", n, e)
		}
		if n, e := table.Add(api.Type{Kind: api.KindInt}); n != 0 || e != api.ErrArg {
			t.Fatalf("Add of a kind that may not be: %d, %d", n, e)
		}
	}
	is(t, table, l, "full")
	for i, x := range l {
		if x.Kind == api.KindForward {
			l[i] = full(5000 + i)
			if e := table.Set(i, l[i]); e != api.OK {
				t.Fatalf("Set(%d) of a full table is %d", i, e)
			}
		}
	}
	is(t, table, l, "full, and set")
}

// each is a table with a type of each kind that may be added, and what it has.
func each(t *testing.T) (*types.Table, []api.Type) {
	table, l := types.New(), always()
	for k := uint8(8); k <= 17; k++ {
		x := full(int(k))
		x.Kind = k
		add(t, table, x)
		l = append(l, x)
	}
	return table, l
}

// P11.1: which numbers, and which kinds, Set takes.
func TestSet(t *testing.T) {
	for k := 0; k < 256; k++ {
		for _, i := range []int{-1 << 62, -1, 0, 1, 2, 7, 8, 9, 10, 11, 13, 14, 17, 18, 19, 20, 21, 1023, 1024, 1 << 33} {
			table, l := each(t)
			x := full(100 + i%100)
			x.Kind = uint8(k)
			e := table.Set(i, x)
			if i == 19 && k >= 8 && k <= 17 {
				l[19] = x
				if e != api.OK {
					t.Fatalf("Set(%d) of kind %d is %d", i, k, e)
				}
			} else if e != api.ErrArg {
				t.Fatalf("Set(%d) of kind %d is %d", i, k, e)
			}
			is(t, table, l, fmt.Sprintf("behind Set(%d) of kind %d", i, k))
			if k != 17 && k != 12 {
				continue
			}
			if e := table.Set(19, full(7)); (e == api.OK) != (l[19].Kind == api.KindForward) || e != api.OK && e != api.ErrArg {
				t.Fatalf("Set(19) behind Set(%d) of kind %d is %d", i, k, e)
			}
		}
	}
}

// P11.1: what is not there, and what New did not make.
func TestNil(t *testing.T) {
	for what, table := range map[string]*types.Table{"nil": nil, "not made": new(types.Table)} {
		for k := 0; k < 256; k += 5 {
			x := full(k)
			x.Kind = uint8(k)
			if n, e := table.Add(x); n != 0 || e != api.ErrNil {
				t.Fatalf("%s: Add is %d, %d", what, n, e)
			}
			for _, i := range []int{-1, 0, 1, 9, 10, 11, 1024} {
				if e := table.Set(i, x); e != api.ErrNil {
					t.Fatalf("%s: Set(%d) is %d", what, i, e)
				}
			}
		}
		is(t, table, nil, what)
		for i := -2; i < 12; i++ {
			low, high, r := table.Range(i)
			if table.Ordinal(i) || table.Number(i) || low != 0 || high != 0 || r {
				t.Fatalf("%s: of %d: Ordinal, Number, Range %d %d %v", what, i, low, high, r)
			}
			if got := table.Base(i); table == nil && got != i {
				t.Fatalf("%s: Base(%d) is %d", what, i, got)
			}
			for j := -2; j < 12; j++ {
				p := api.Param{Type: i}
				q := api.Param{Type: i, Var: true}
				if table.Alike(i, j) || table.Compatible(i, j) || table.Assignable(i, j, nil) || table.Assignable(i, j, api.Whole(1)) || table.Passes(p, j, nil) || table.Passes(q, j, nil) {
					t.Fatalf("%s: something fits of %d and %d", what, i, j)
				}
			}
		}
	}
}

// P11.1: what is handed in has lists of its own: the table keeps none of them, and changes none.
func TestOwnLists(t *testing.T) {
	table := types.New()
	x := full(3)
	n := add(t, table, x)
	if text(x) != text(full(3)) {
		t.Fatalf("Add changed what was handed in")
	}
	m := add(t, table, x)
	spoil(x)
	for _, i := range []int{n, m} {
		if text(table.Get(i)) != text(full(3)) {
			t.Fatalf("Get(%d) is %s: Add keeps the caller's lists", i, text(table.Get(i)))
		}
	}
	f := add(t, table, api.Type{Kind: api.KindForward, Name: "f"})
	x = full(4)
	if e := table.Set(f, x); e != api.OK || text(x) != text(full(4)) {
		t.Fatalf("Set is %d, or changed what was handed in", e)
	}
	spoil(x)
	if text(table.Get(f)) != text(full(4)) {
		t.Fatalf("Get is %s: Set keeps the caller's lists", text(table.Get(f)))
	}
}

// P11.1: what is answered has lists of its own: each call's, and each within an answer.
func TestOwnAnswers(t *testing.T) {
	table := types.New()
	n := add(t, table, full(3))
	a, b := table.Get(n), table.Get(n)
	spoil(a)
	if text(b) != text(full(3)) || text(table.Get(n)) != text(full(3)) {
		t.Fatalf("Get answers the table's lists: %s", text(b))
	}
	for _, l := range []api.Type{table.Get(n)} {
		_ = append(l.Names, "more")
		_ = append(l.Fields, api.Field{})
		_ = append(l.Arms, api.Arm{})
		_ = append(l.Arms[0].From, 77)
		_ = append(l.Params, api.Param{})
	}
	if text(table.Get(n)) != text(full(3)) {
		t.Fatalf("what was put behind an answer's lists is in the table's")
	}
	one := []int64{1, 2}
	n = add(t, table, api.Type{Kind: api.KindRec, Arms: []api.Arm{{From: one, To: one}, {From: one, To: one}}})
	one[0] = 5
	c := table.Get(n)
	c.Arms[0].From[0] = 9
	if fmt.Sprint(c.Arms) != "[{[9 2] [1 2] false} {[1 2] [1 2] false}]" {
		t.Fatalf("two lists of an answer are one: %v", c.Arms)
	}
}

// P11.1: what a table has does not hang on what others are given, nor on how often it is asked.
func TestTables(t *testing.T) {
	a, b := types.New(), types.New()
	la, lb := always(), always()
	for i := 0; i < 100; i++ {
		x := full(i)
		x.Kind = uint8(8 + i%10)
		if i%3 == 0 {
			if n := add(t, a, x); n != len(la) {
				t.Fatalf("Add is %d, not %d", n, len(la))
			}
			la = append(la, x)
		} else {
			if n := add(t, b, x); n != len(lb) {
				t.Fatalf("Add is %d, not %d", n, len(lb))
			}
			lb = append(lb, x)
		}
	}
	for i := 0; i < 2; i++ {
		is(t, a, la, "one table")
		is(t, b, lb, "the other one")
	}
}
