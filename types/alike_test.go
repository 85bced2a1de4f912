package types_test

import (
	"fmt"
	"math/rand"
	"strings"
	"testing"

	"separatum/api"
	"separatum/types"
)

// P11.2: each two types of the world.
func TestAlike(t *testing.T) {
	table, l := build(t)
	for i, x := range l {
		for j, y := range l {
			want := i == j && i != 0 || x.like != "" && x.like == y.like
			if got := table.Alike(i, j); got != want {
				t.Errorf("Alike(%d %s, %d %s) is %v", i, x.name, j, y.name, got)
			}
		}
	}
}

// P11.2: what is no type is alike to nothing, not even to itself.
func TestAlikeNone(t *testing.T) {
	table, l := build(t)
	none := []int{-1 << 62, -1, 0, len(l), len(l) + 1, 1023, 1024, 1 << 40}
	for _, i := range none {
		for j := range l {
			if table.Alike(i, j) || table.Alike(j, i) {
				t.Errorf("%d, which is none, is alike to %d", i, j)
			}
		}
		for _, j := range none {
			if table.Alike(i, j) {
				t.Errorf("%d and %d, which are none, are alike", i, j)
			}
		}
	}
}

// sign is a text that two types share just if they are alike; nothing of what is no type. (Of tables whose procedures hang on those that were there ahead of them.)
func sign(table *types.Table, i int) string {
	x := table.Get(i)
	switch x.Kind {
	case api.KindNone:
		return ""
	case api.KindOpen:
		return fmt.Sprint("open ", x.Base)
	case api.KindProc:
		var b strings.Builder
		for _, p := range x.Params {
			s := sign(table, p.Type)
			if s == "" {
				return fmt.Sprint("#", i)
			}
			fmt.Fprint(&b, p.Var, "(", s, ")")
		}
		return fmt.Sprint("proc ", x.Result, " ", b.String())
	}
	return fmt.Sprint("#", i)
}

// procs is a table of procedures by chance, each of which has parameters of types that were there ahead of it, or of none.
func procs(t *testing.T, r *rand.Rand) *types.Table {
	table := types.New()
	for i := r.Intn(3); i > 0; i-- {
		add(t, table, api.Type{Kind: api.KindOpen, Base: 1 + r.Intn(2)})
	}
	for i := 2 + r.Intn(8); i > 0; i-- {
		x := api.Type{Kind: api.KindProc, Result: r.Intn(20) / 18}
		for j := r.Intn(3); j > 0; j-- {
			p := api.Param{Var: r.Intn(6) == 0, Type: 1 + r.Intn(2)}
			if n := table.Len(); n > 10 && r.Intn(3) > 0 {
				p.Type = 10 + r.Intn(n-10)
			}
			if r.Intn(25) == 0 {
				p.Type = -1 + r.Intn(2)
			}
			x.Params = append(x.Params, p)
		}
		add(t, table, x)
	}
	return table
}

// P11.2: procedures of procedures, by chance.
func TestAlikeByChance(t *testing.T) {
	r := rand.New(rand.NewSource(11))
	var alike, within int
	for n := 0; n < 2000; n++ {
		table := procs(t, r)
		for i := range table.Len() {
			for j := range table.Len() {
				s := sign(table, i)
				want := s != "" && s == sign(table, j)
				if got := table.Alike(i, j); got != want {
					t.Fatalf("Alike of %s and %s is %v", text(table.Get(i)), text(table.Get(j)), got)
				}
				if want && i != j {
					alike++
					if strings.Count(s, "proc") > 1 {
						within++
					}
				}
			}
		}
	}
	if alike < 1000 || within < 100 {
		t.Fatalf("only %d pairs are alike, %d of them with procedures within", alike, within)
	}
}

// tower is a table with two rows of procedures, each with parameters of the type ahead of it in its row, and the two at the ends; the lowest ones are of low and of other.
func tower(t *testing.T, high, wide int, low, other int) (table *types.Table, a, b int) {
	table = types.New()
	a, b = low, other
	for range high {
		var x, y api.Type
		x.Kind, y.Kind = api.KindProc, api.KindProc
		for range wide {
			x.Params = append(x.Params, api.Param{Type: a})
			y.Params = append(y.Params, api.Param{Type: b})
		}
		a, b = add(t, table, x), add(t, table, y)
	}
	return table, a, b
}

// P11.2: types within types, as many as there may be, whose parameters name the same ones again and again.
func TestAlikeDeep(t *testing.T) {
	for _, wide := range []int{1, 2, 3, 20} {
		table, a, b := tower(t, 507, wide, api.TypeInt, api.TypeInt)
		if table.Len() != api.MaxTypes {
			t.Fatalf("%d types", table.Len())
		}
		if !table.Alike(a, b) || !table.Compatible(a, b) || !table.Alike(b, a) {
			t.Fatalf("two towers of the same are not alike, %d wide", wide)
		}
		if table.Alike(a, b-2) || table.Alike(a-2, b) {
			t.Fatalf("two towers of other heights are alike, %d wide", wide)
		}
		table, a, b = tower(t, 507, wide, api.TypeInt, api.TypeCard)
		if table.Alike(a, b) || table.Compatible(a, b) || !table.Alike(a, a) {
			t.Fatalf("two towers that differ at the ground are alike, %d wide", wide)
		}
		table, a, b = tower(t, 507, wide, api.TypeNone, api.TypeNone)
		if table.Alike(a, b) || !table.Alike(a, a) || !table.Alike(b, b) {
			t.Fatalf("two towers of nothing are alike, %d wide", wide)
		}
	}
}

// P11.2: the last parameter of the last type tells.
func TestAlikeLast(t *testing.T) {
	for _, n := range []int{1, 2, 3, 50} {
		for _, last := range []api.Param{{Type: 1}, {Type: 2}, {Type: 1, Var: true}, {Type: 0}, {Type: 11}} {
			table := types.New()
			row := make([]api.Param, n)
			for i := range row {
				row[i].Type = 1
			}
			a := add(t, table, api.Type{Kind: api.KindProc, Params: row})
			row[n-1] = last
			b := add(t, table, api.Type{Kind: api.KindProc, Params: row})
			x := add(t, table, api.Type{Kind: api.KindProc, Params: []api.Param{{Type: 4}, {Type: a}}})
			y := add(t, table, api.Type{Kind: api.KindProc, Params: []api.Param{{Type: 4}, {Type: b}}})
			want := last == api.Param{Type: 1}
			if table.Alike(a, b) != want || table.Alike(b, a) != want || table.Alike(x, y) != want || table.Alike(y, x) != want {
				t.Fatalf("of %d parameters the last is %v: Alike is not %v", n, last, want)
			}
			c := add(t, table, api.Type{Kind: api.KindProc, Params: row[:n-1]})
			if table.Alike(a, c) || table.Alike(c, a) || table.Alike(b, c) {
				t.Fatalf("%d and %d parameters are alike", n, n-1)
			}
		}
	}
}

// R1: types that lead to themselves: each call ends, and what differs is not alike.
func TestAlikeRound(t *testing.T) {
	table := types.New()
	var l []int
	for range 300 {
		l = append(l, add(t, table, api.Type{Kind: api.KindForward}))
	}
	for i, n := range l {
		next := l[(i*7+3)%len(l)]
		x := api.Type{Kind: api.KindProc, Params: []api.Param{{Type: n}, {Type: next}, {Type: l[len(l)-1-i]}}}
		if i%30 == 0 {
			x.Params[0].Var = true
		}
		if e := table.Set(n, x); e != api.OK {
			t.Fatalf("Set is %d", e)
		}
	}
	for _, a := range l {
		for _, b := range l {
			got := table.Alike(a, b)
			if got != table.Alike(b, a) {
				t.Fatalf("Alike(%d, %d) is %v, and not the other way about", a, b, got)
			}
			if a == b && !got || got && (table.Get(a).Params[0].Var != table.Get(b).Params[0].Var) {
				t.Fatalf("Alike(%d, %d) is %v", a, b, got)
			}
			table.Compatible(a, b)
			table.Assignable(a, b, nil)
		}
	}
	one := add(t, table, api.Type{Kind: api.KindProc, Params: []api.Param{{Type: table.Len()}}})
	two := add(t, table, api.Type{Kind: api.KindProc, Result: 1, Params: []api.Param{{Type: table.Len()}}})
	if !table.Alike(one, one) || table.Alike(one, two) || table.Alike(two, one) {
		t.Fatalf("procedures of themselves that answer others are alike")
	}
}
