package layout_test

import (
	"fmt"
	"testing"

	"separatum/api"
	"separatum/layout"
	"separatum/types"
)

// at holds At of the field against what it is to be.
func (m maker) at(i, field, n int, e api.Errno, what string) {
	m.Helper()
	if got, err := layout.At(m.Table, i, field); got != n || err != e {
		m.Errorf("At of field %d of %s is %d, %d, not %d, %d", field, what, got, err, n, e)
	}
}

// ats holds At of each field of a record against what it is to be, and of fields that it has not.
func (m maker) ats(i int, l []int, what string) {
	m.Helper()
	for field, n := range l {
		m.at(i, field, n, api.OK, what)
	}
	for _, field := range append(none(), len(l), len(l)+1, len(l)+2) {
		m.at(i, field, 0, api.ErrArg, what)
	}
}

// P12.1: fields of records, behind all that come ahead of them.
func TestAt(t *testing.T) {
	m := start(t)
	nothing := m.record()
	five := m.row(5, api.TypeInt)
	open := m.add(api.Type{Kind: api.KindOpen, Base: api.TypeInt})
	m.ats(nothing, nil, "a record of no fields")
	m.ats(m.record(nothing), []int{0}, "a record of one of no words")
	m.ats(m.record(api.TypeInt), []int{0}, "a record of one")
	m.ats(m.record(api.TypeInt, api.TypeChar, api.TypeBits, api.TypeBool), []int{0, 1, 2, 3}, "a record of words")
	m.ats(m.record(five, five, api.TypeInt, five, open, api.TypeInt, nothing, nothing, api.TypeInt), []int{0, 5, 10, 11, 16, 18, 19, 19, 19}, "a record of rows")
	m.ats(m.record(m.record(api.TypeInt, five), m.row(2, m.record(five, five)), api.TypeInt), []int{0, 6, 26}, "a record of records")
	m.ats(m.record(m.row(32766, api.TypeInt), api.TypeInt, nothing), []int{0, 32766, 32767}, "a record at the limit")
	m.ats(m.record(nothing, m.row(32767, api.TypeInt), nothing), []int{0, 0, 32767}, "a record at the limit")
}

// P12.1: fields of arms stand behind those of arms ahead of them.
func TestAtArms(t *testing.T) {
	m := start(t)
	three := m.row(3, api.TypeInt)
	x := api.Type{Kind: api.KindRec, Fields: []api.Field{{Type: three}, {Type: api.TypeBool, Arm: 1}, {Type: three, Arm: 2}, {Type: api.TypeInt, Arm: 3}, {Type: three, Arm: 3}, {Type: api.TypeInt, Arm: 5}, {Type: api.TypeInt, Arm: 2}}}
	want := []int{0, 3, 4, 7, 8, 11, 12}
	m.ats(m.add(x), want, "a record of arms that are none")
	x.Arms = []api.Arm{{From: []int64{0}, To: []int64{0}}, {From: []int64{1}, To: []int64{1}}, {}, {Else: true}}
	i := m.add(x)
	m.ats(i, want, "a record of arms")
	m.size(i, 13, api.OK, "a record of arms")
}

// P12.1: fields of what is no record, also where it tells fields.
func TestAtOthers(t *testing.T) {
	m := start(t)
	for i := range api.TypeFirst {
		_, e := layout.Size(m.Table, i)
		for _, field := range []int{-1, 0, 1} {
			if e == api.OK {
				e = api.ErrArg
			}
			m.at(i, field, 0, e, fmt.Sprint("type ", i))
		}
	}
	index := m.sub(api.TypeCard, 0, 3)
	for kind := api.KindEnum; kind <= api.KindForward; kind++ {
		if kind == api.KindRec {
			continue
		}
		i := m.add(api.Type{Kind: kind, Base: api.TypeInt, Index: index, High: 5, Fields: fields(api.TypeInt, api.TypeInt)})
		for _, field := range []int{-1, 0, 1, 2} {
			m.at(i, field, 0, api.ErrArg, fmt.Sprint("a type of kind ", kind))
		}
	}
}

// P12.1: Size's errors are ahead of those of fields.
func TestAtErrors(t *testing.T) {
	m := start(t)
	big, without := m.row(32768, api.TypeInt), m.forward()
	for _, x := range []struct {
		i    int
		e    api.Errno
		what string
	}{
		{big, api.ErrBig, "an array that is too big"},
		{without, api.ErrArg, "a forward type"},
		{m.record(api.TypeInt, big), api.ErrBig, "a record that is too big"},
		{m.record(m.row(32767, api.TypeInt), api.TypeInt), api.ErrBig, "a record of one word more"},
		{m.record(big, without), api.ErrBig, "a record that is too big first"},
		{m.record(api.TypeInt, without), api.ErrArg, "a record of what has none"},
		{m.record(without, big), api.ErrArg, "a record of what has none first"},
		{-1, api.ErrArg, "no type"}, {m.Len(), api.ErrArg, "no type"}, {1 << 40, api.ErrArg, "no type"},
	} {
		for _, field := range append(none(), 0, 1, 2, 3) {
			m.at(x.i, field, 0, x.e, x.what)
		}
	}
}

// P12.1: of what is not there.
func TestAtNil(t *testing.T) {
	for _, table := range []*types.Table{nil, new(types.Table)} {
		for _, i := range append(none(), 0, 1, 9, 10) {
			for _, field := range append(none(), 0, 1) {
				maker{t, table}.at(i, field, 0, api.ErrNil, "a type of no table")
			}
		}
	}
}
