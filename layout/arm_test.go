package layout_test

import (
	"math"
	"testing"

	"separatum/api"
	"separatum/layout"
	"separatum/types"
)

// pairs are an arm of these pairs, from and to.
func pairs(l ...int64) api.Arm {
	var a api.Arm
	for i := 0; i < len(l); i += 2 {
		a.From = append(a.From, l[i])
		a.To = append(a.To, l[i+1])
	}
	return a
}

// other is a, which is for all others.
func other(a api.Arm) api.Arm {
	a.Else = true
	return a
}

// arms is a record of these arms.
func (m maker) arms(l ...api.Arm) int {
	m.Helper()
	return m.add(api.Type{Kind: api.KindRec, Fields: []api.Field{{Type: api.TypeInt, Arm: 1}}, Arms: l})
}

// arm holds Arm against what it is to be; 0: none.
func (m maker) arm(i int, tag int64, n int) {
	m.Helper()
	if got, is := layout.Arm(m.Table, i, tag); got != n || is != (n != 0) {
		m.Errorf("Arm of %+v, tag %d, is %d, %v, not %d", m.Get(i).Arms, tag, got, is, n)
	}
}

// P12.1: arms by tags, at both ends of their pairs and beside them.
func TestArm(t *testing.T) {
	m := start(t)
	none := m.arms()
	one := m.arms(pairs(5, 7))
	some := m.arms(pairs(1, 3, 8, 8), pairs(-4, 0), pairs(5, 6, 10, 12, 20, 20))
	rest := m.arms(pairs(1, 3, 8, 8), pairs(-4, 0), pairs(5, 6, 10, 12, 20, 20), other(pairs()))
	for tag := int64(-9); tag < 30; tag++ {
		n := 0
		switch {
		case tag >= 1 && tag <= 3 || tag == 8:
			n = 2
		case tag >= -4 && tag <= 0:
			n = 3
		case tag == 5 || tag == 6 || tag >= 10 && tag <= 12 || tag == 20:
			n = 4
		}
		m.arm(none, tag, 0)
		if tag >= 5 && tag <= 7 {
			m.arm(one, tag, 2)
		} else {
			m.arm(one, tag, 0)
		}
		m.arm(some, tag, n)
		if n == 0 {
			n = 5
		}
		m.arm(rest, tag, n)
	}
}

// P12.1: the first arm of several; one that is Else behind all that have the tag.
func TestArmFirst(t *testing.T) {
	m := start(t)
	for _, x := range []struct {
		l          []api.Arm
		in, beside int
	}{
		{[]api.Arm{pairs(4, 6), pairs(5, 5)}, 2, 0},
		{[]api.Arm{pairs(1, 2), pairs(5, 5), pairs(5, 5)}, 3, 0},
		{[]api.Arm{pairs(1, 2), pairs(1, 3), pairs(1, 4), pairs(9, 9, 4, 4, 5, 5)}, 5, 0},
		{[]api.Arm{other(pairs()), pairs(5, 5)}, 3, 2},
		{[]api.Arm{other(pairs()), pairs(1, 2), other(pairs())}, 2, 2},
		{[]api.Arm{pairs(1, 2), other(pairs()), other(pairs())}, 3, 3},
		{[]api.Arm{pairs(5, 5), other(pairs()), other(pairs())}, 2, 3},
		{[]api.Arm{other(pairs()), other(pairs(5, 5))}, 3, 2},
		{[]api.Arm{other(pairs(5, 5)), pairs(5, 5)}, 2, 2},
		{[]api.Arm{pairs(7, 3), pairs(), other(pairs(7, 3))}, 4, 4},
		{[]api.Arm{pairs(7, 3), pairs(6, 5), pairs(5, 4)}, 0, 0},
		{[]api.Arm{pairs(6, 9), pairs(0, 4)}, 0, 0},
	} {
		i := m.arms(x.l...)
		m.arm(i, 5, x.in)
		m.arm(i, 77, x.beside)
		m.arm(i, -77, x.beside)
	}
}

// P12.1: lists that are not as long as each other have as many pairs as the shorter one.
func TestArmPairs(t *testing.T) {
	m := start(t)
	i := m.arms(api.Arm{From: []int64{1, 5, 9}, To: []int64{2}}, api.Arm{From: []int64{5}, To: []int64{5, 9, 9}}, api.Arm{From: []int64{9}}, api.Arm{To: []int64{9}})
	m.arm(i, 1, 2)
	m.arm(i, 5, 3)
	m.arm(i, 9, 0)
	m.arm(i, 0, 0)
}

// P12.1: tags as far as numbers go.
func TestArmFar(t *testing.T) {
	m := start(t)
	i := m.arms(pairs(math.MaxInt64, math.MaxInt64), pairs(math.MinInt64, -1), pairs(math.MinInt64, math.MaxInt64))
	m.arm(i, math.MaxInt64, 2)
	m.arm(i, math.MinInt64, 3)
	m.arm(i, -1, 3)
	m.arm(i, 0, 4)
	m.arm(i, math.MaxInt64-1, 4)
}

// P12.1: numbers of arms do not hang on fields, nor on whether the record has words.
func TestArmFields(t *testing.T) {
	m := start(t)
	l := []api.Arm{pairs(1, 1), pairs(2, 2)}
	for _, fs := range [][]api.Field{nil, fields(api.TypeInt), fields(api.TypeStr), fields(m.row(40000, api.TypeInt)), {{Type: api.TypeInt, Arm: 7}, {Type: api.TypeInt, Arm: 2}}} {
		i := m.add(api.Type{Kind: api.KindRec, Fields: fs, Arms: l})
		m.arm(i, 1, 2)
		m.arm(i, 2, 3)
		m.arm(i, 3, 0)
	}
}

// P12.1: of what is no record there is none.
func TestArmOthers(t *testing.T) {
	m := start(t)
	l := []api.Arm{pairs(0, 9), other(pairs())}
	for kind := api.KindEnum; kind <= api.KindForward; kind++ {
		if kind != api.KindRec {
			m.arm(m.add(api.Type{Kind: kind, Base: api.TypeInt, Index: api.TypeChar, Arms: l}), 3, 0)
		}
	}
	for _, i := range append(none(), 0, 1, 2, 3, 4, 5, 6, 7, 8, 9, m.Len()) {
		for _, tag := range []int64{math.MinInt64, -1, 0, 1, math.MaxInt64} {
			m.arm(i, tag, 0)
			maker{t, nil}.arm(i, tag, 0)
			maker{t, new(types.Table)}.arm(i, tag, 0)
		}
	}
}
