package types_test

import (
	"math/rand"
	"testing"

	"separatum/api"
	"separatum/konst"
	"separatum/types"
)

// chance is a table of types by chance, whose numbers lead anywhere.
func chance(r *rand.Rand) *types.Table {
	table := types.New()
	n := 1 + r.Intn(30)
	any := func() int { return r.Intn(n+14) - 2 }
	for range n {
		x := api.Type{Kind: uint8(8 + r.Intn(10)), Base: any(), Index: any(), Low: int64(r.Intn(9) - 3), High: int64(r.Intn(200)), Result: any()}
		if r.Intn(3) == 0 {
			x.Base = 1 + r.Intn(4)
		}
		for range r.Intn(3) {
			x.Params = append(x.Params, api.Param{Var: r.Intn(4) == 0, Type: any()})
		}
		table.Add(x)
		if r.Intn(5) == 0 {
			x.Kind = uint8(8 + r.Intn(9))
			table.Set(table.Len()-1-r.Intn(2), x)
		}
	}
	return table
}

// laws holds a table against what follows.
func laws(t *testing.T, table *types.Table, vals []value) {
	t.Helper()
	for i := -2; i < table.Len()+2; i++ {
		there := table.Get(i).Kind != api.KindNone
		if table.Compatible(i, i) != there || table.Alike(i, i) != there {
			t.Fatalf("type %d is not compatible with itself: %s", i, text(table.Get(i)))
		}
		for j := -2; j < table.Len()+2; j++ {
			c := table.Compatible(i, j)
			if c != table.Compatible(j, i) || table.Alike(i, j) != table.Alike(j, i) {
				t.Fatalf("types %d and %d fit only one way about: %s, %s", i, j, text(table.Get(i)), text(table.Get(j)))
			}
			low, high, is := table.Range(i)
			for _, x := range vals {
				a := table.Assignable(i, j, x.v)
				n, has := konst.Number(x.v)
				if c && is && has && n >= low && n <= high && i != api.TypeWhole && !a {
					t.Fatalf("%#v of type %d may not be assigned to %d, which is compatible, from %d to %d", x.v, j, i, low, high)
				}
				table.Passes(api.Param{Type: i}, j, x.v)
				table.Passes(api.Param{Var: true, Type: i}, j, x.v)
			}
		}
	}
}

// P11.5: of the world.
func TestLaws(t *testing.T) {
	table, _ := build(t)
	laws(t, table, values())
	laws(t, types.New(), values())
}

// P11.5, R1: of whatever tables there may be; each call ends.
func TestLawsByChance(t *testing.T) {
	r := rand.New(rand.NewSource(5))
	vals := []value{{v: nil}, {v: api.Whole(3)}, {v: api.Letter(9)}, {v: api.String("a")}, {v: api.String("abc")}, {v: api.Item{Type: 10, N: 1}}, {v: api.Truth(true)}, {v: api.Null{}}}
	for range 300 {
		laws(t, chance(r), vals)
	}
}

// R6: what a table answers hangs on what it was given alone.
func TestAgain(t *testing.T) {
	for range 20 {
		r := rand.New(rand.NewSource(8))
		a := chance(r)
		b := chance(rand.New(rand.NewSource(8)))
		for i := range a.Len() {
			for j := range a.Len() {
				if a.Alike(i, j) != b.Alike(i, j) || a.Compatible(i, j) != b.Compatible(i, j) || a.Assignable(i, j, nil) != b.Assignable(i, j, nil) {
					t.Fatalf("types %d and %d fit in one table, and not in the other", i, j)
				}
			}
		}
	}
}
