package layout_test

import (
	"fmt"
	"slices"
	"testing"

	"separatum/api"
	"separatum/layout"
	"separatum/types"
)

// places holds Places against what it is to be.
func (m maker) places(l, at []int, n int, e api.Errno) {
	m.Helper()
	was := slices.Clone(l)
	got, words, err := layout.Places(m.Table, l)
	if !slices.Equal(got, at) || words != n || err != e {
		m.Errorf("Places of %v is %v, %d, %d, not %v, %d, %d", was, got, words, err, at, n, e)
	}
	if !slices.Equal(l, was) {
		m.Errorf("Places made %v of %v", l, was)
	}
}

// P12.2: variables one behind the other.
func TestPlaces(t *testing.T) {
	m := start(t)
	nothing, five := m.record(), m.row(5, api.TypeInt)
	open := m.add(api.Type{Kind: api.KindOpen, Base: api.TypeChar})
	m.places(nil, nil, 0, api.OK)
	m.places([]int{}, nil, 0, api.OK)
	m.places([]int{api.TypeInt}, []int{0}, 1, api.OK)
	m.places([]int{nothing}, []int{0}, 0, api.OK)
	m.places([]int{five}, []int{0}, 5, api.OK)
	m.places([]int{api.TypeInt, api.TypeInt, api.TypeBits}, []int{0, 1, 2}, 3, api.OK)
	m.places([]int{five, api.TypeInt, five, open, nothing, m.record(five, five), nothing, api.TypeChar}, []int{0, 5, 6, 11, 13, 13, 23, 23}, 24, api.OK)
	m.places([]int{nothing, five, nothing, five, five}, []int{0, 0, 5, 5, 10}, 15, api.OK)
}

// P12.2: at the limit, and one word beyond.
func TestPlacesLimit(t *testing.T) {
	m := start(t)
	most, half, less, nothing := m.row(32767, api.TypeInt), m.row(16384, api.TypeInt), m.row(16383, api.TypeInt), m.record()
	m.places([]int{most}, []int{0}, 32767, api.OK)
	m.places([]int{nothing, most, nothing, nothing}, []int{0, 0, 32767, 32767}, 32767, api.OK)
	m.places([]int{half, less}, []int{0, 16384}, 32767, api.OK)
	m.places([]int{less, less, api.TypeInt}, []int{0, 16383, 32766}, 32767, api.OK)
	m.places([]int{half, half}, nil, 0, api.ErrBig)
	m.places([]int{most, api.TypeInt}, nil, 0, api.ErrBig)
	m.places([]int{api.TypeInt, most}, nil, 0, api.ErrBig)
	m.places([]int{most, nothing, api.TypeInt, nothing}, nil, 0, api.ErrBig)
	m.places([]int{most, most, most}, nil, 0, api.ErrBig)
	ones := slices.Repeat([]int{api.TypeInt}, 32767)
	var at []int
	for i := range ones {
		at = append(at, i)
	}
	m.places(ones, at, 32767, api.OK)
	m.places(append(ones, api.TypeInt), nil, 0, api.ErrBig)
	m.places(append(ones, nothing), append(at, 32767), 32767, api.OK)
	m.places(slices.Repeat([]int{most}, 1<<17), nil, 0, api.ErrBig)
}

// P12.2: the first Size's error, also where those ahead of it are too many words together.
func TestPlacesErrors(t *testing.T) {
	m := start(t)
	big, without, most := m.row(32768, api.TypeInt), m.forward(), m.row(32767, api.TypeInt)
	for _, x := range []struct {
		l []int
		e api.Errno
	}{
		{[]int{big}, api.ErrBig}, {[]int{without}, api.ErrArg}, {[]int{api.TypeStr}, api.ErrArg}, {[]int{api.TypeNone}, api.ErrArg}, {[]int{-1}, api.ErrArg}, {[]int{5000}, api.ErrArg},
		{[]int{big, without}, api.ErrBig}, {[]int{without, big}, api.ErrArg},
		{[]int{api.TypeInt, big, without}, api.ErrBig}, {[]int{api.TypeInt, without, big}, api.ErrArg},
		{[]int{most, most, without}, api.ErrArg}, {[]int{most, most, api.TypeInt, without, big}, api.ErrArg}, {[]int{most, most, big, without}, api.ErrBig},
		{[]int{most, without, most}, api.ErrArg}, {[]int{without, most, most}, api.ErrArg}, {[]int{most, -1}, api.ErrArg}, {[]int{most, most, api.TypeNil}, api.ErrArg},
	} {
		m.places(x.l, nil, 0, x.e)
	}
}

// P12.2: of what is not there.
func TestPlacesNil(t *testing.T) {
	for _, table := range []*types.Table{nil, new(types.Table)} {
		for _, l := range [][]int{nil, {}, {1}, {0}, {-1}, {1, 2, 3}, {10}} {
			maker{t, table}.places(l, nil, 0, api.ErrNil)
		}
	}
}

// P12.2, R5: what is answered is new memory, and is nobody's but the caller's.
func TestPlacesOwn(t *testing.T) {
	m := start(t)
	l := []int{api.TypeInt, api.TypeInt, api.TypeInt}
	a, _, _ := layout.Places(m.Table, l)
	b, _, _ := layout.Places(m.Table, l)
	for i := range a {
		a[i] = 77
	}
	_ = append(a, 78)
	if fmt.Sprint(l, b) != "[1 1 1] [0 1 2]" {
		t.Fatalf("what was handed in, and another answer, became %v, %v", l, b)
	}
	for i := range l {
		l[i] = 9
	}
	if fmt.Sprint(b) != "[0 1 2]" {
		t.Fatalf("an answer hangs on what was handed in: %v", b)
	}
	m.places([]int{api.TypeInt, api.TypeInt, api.TypeInt}, []int{0, 1, 2}, 3, api.OK)
}
