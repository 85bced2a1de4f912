package layout_test

import (
	"fmt"
	"math"
	"slices"
	"testing"

	"separatum/api"
	"separatum/types"
)

// none are numbers that are no type's, of whatever table.
func none() []int {
	return []int{math.MinInt, -1 << 31, -1 << 16, -2, -1, 1 << 10, 1<<10 + 1, 1 << 16, 1 << 31, math.MaxInt}
}

// maker is a table that a test adds types to.
type maker struct {
	*testing.T
	*types.Table
}

// start begins a table.
func start(t *testing.T) maker {
	t.Helper()
	return maker{t, types.New()}
}

// add adds x, which may be added.
func (m maker) add(x api.Type) int {
	m.Helper()
	n, e := m.Table.Add(x)
	if e != api.OK {
		m.Fatalf("Add of %+v is %d, %d", x, n, e)
	}
	return n
}

// set makes x of the type i, which is a forward one.
func (m maker) set(i int, x api.Type) {
	m.Helper()
	if e := m.Table.Set(i, x); e != api.OK {
		m.Fatalf("Set(%d) of %+v is %d", i, x, e)
	}
}

// forward is a type that is not there yet.
func (m maker) forward() int {
	m.Helper()
	return m.add(api.Type{Kind: api.KindForward, Name: "f"})
}

// sub is a subrange of the type of.
func (m maker) sub(of int, low, high int64) int {
	m.Helper()
	return m.add(api.Type{Kind: api.KindSub, Base: of, Low: low, High: high})
}

// array is one of that index.
func (m maker) array(index, of int) int {
	m.Helper()
	return m.add(api.Type{Kind: api.KindArray, Index: index, Base: of})
}

// row is an array of n elements, from 1 on.
func (m maker) row(n int64, of int) int {
	m.Helper()
	return m.array(m.sub(api.TypeInt, 1, n), of)
}

// record is one of fields of these types, of no arms.
func (m maker) record(l ...int) int {
	m.Helper()
	return m.add(api.Type{Kind: api.KindRec, Fields: fields(l...)})
}

// fields are some of these types, of no arms.
func fields(l ...int) []api.Field {
	var fs []api.Field
	for i, typ := range l {
		fs = append(fs, api.Field{Name: fmt.Sprint("f", i), Type: typ})
	}
	return fs
}

// all are the types of the table, as texts.
func all(table *types.Table) []string {
	var l []string
	for i := range table.Len() {
		l = append(l, fmt.Sprintf("%d %v\n", i, table.Get(i)))
	}
	return l
}

// unchanged holds the table, behind f, against what it was.
func unchanged(t *testing.T, table *types.Table, f func()) {
	t.Helper()
	was := all(table)
	f()
	if is := all(table); !slices.Equal(is, was) {
		t.Fatalf("the table was %s, and is %s", was, is)
	}
}
