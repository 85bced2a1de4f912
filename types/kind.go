package types

import (
	"math"

	"separatum/api"
)

// ranges are those of the kinds whose types have no other ones, from where to where.
func ranges() map[uint8][2]int64 {
	return map[uint8][2]int64{
		api.KindInt:   {math.MinInt16, math.MaxInt16},
		api.KindCard:  {0, math.MaxUint16},
		api.KindBool:  {0, 1},
		api.KindChar:  {0, math.MaxUint8},
		api.KindWhole: {api.MinWhole, api.MaxWhole},
	}
}

// Base is the base of the type i.
func (t *Table) Base(i int) int {
	if x := t.at(i); x.Kind == api.KindSub {
		return x.Base
	}
	return i
}

// Ordinal tells whether the type i is ordinal.
func (t *Table) Ordinal(i int) bool {
	_, _, is := t.Range(i)
	return is
}

// Number tells whether the type i is whole.
func (t *Table) Number(i int) bool {
	switch t.kind(t.Base(i)) {
	case api.KindInt, api.KindCard, api.KindWhole:
		return true
	}
	return false
}

// Range is the range of the type i, and true; 0, 0 and false, if it is not ordinal.
func (t *Table) Range(i int) (low, high int64, is bool) {
	x, base := t.at(i), t.at(t.Base(i))
	own, is := ranges()[base.Kind]
	switch {
	case !is && base.Kind != api.KindEnum:
		return 0, 0, false
	case x.Kind == api.KindSub || x.Kind == api.KindEnum:
		return x.Low, x.High, true
	}
	return own[0], own[1], true
}

// kind is that of the type i.
func (t *Table) kind(i int) uint8 { return t.at(i).Kind }
