package layout_test

import (
	"fmt"
	"math"
	"testing"

	"separatum/api"
	"separatum/layout"
	"separatum/types"
)

// size holds Size of the type i against what it is to be.
func (m maker) size(i, n int, e api.Errno, what string) {
	m.Helper()
	if got, err := layout.Size(m.Table, i); got != n || err != e {
		m.Errorf("Size of %s is %d, %d, not %d, %d", what, got, err, n, e)
	}
}

// P12.1: of the types that are always there.
func TestSizeAlways(t *testing.T) {
	m := start(t)
	for i, n := range []int{0, 1, 1, 1, 1, 0, 0, 0, 1, 1} {
		e := api.OK
		if n == 0 {
			e = api.ErrArg
		}
		m.size(i, n, e, fmt.Sprint("type ", i))
	}
}

// P12.1: of numbers that are no type's.
func TestSizeNone(t *testing.T) {
	m := start(t)
	m.record(api.TypeInt)
	for _, i := range append(none(), m.Len(), m.Len()+1) {
		m.size(i, 0, api.ErrArg, fmt.Sprint("number ", i))
	}
}

// P12.1: of what is not there.
func TestSizeNil(t *testing.T) {
	for _, table := range []*types.Table{nil, new(types.Table)} {
		for _, i := range append(none(), 0, 1, 5, 9, 10) {
			maker{t, table}.size(i, 0, api.ErrNil, "a type of no table")
		}
	}
}

// P12.1: of each kind that has one word, whatever else is said of the type.
func TestSizeWords(t *testing.T) {
	m := start(t)
	color := m.add(api.Type{Kind: api.KindEnum, High: 2, Names: []string{"red", "green", "blue"}})
	big := m.row(40000, api.TypeInt)
	forward := m.forward()
	for what, x := range map[string]api.Type{
		"an enumeration":              {Kind: api.KindEnum, High: 2, Names: []string{"a", "b", "c"}},
		"one of no values":            {Kind: api.KindEnum, High: -1},
		"one of more than a word has": {Kind: api.KindEnum, Low: math.MinInt64, High: math.MaxInt64},
		"0 to 9":                      {Kind: api.KindSub, Base: api.TypeCard, High: 9},
		"-5 to 5":                     {Kind: api.KindSub, Base: api.TypeInt, Low: -5, High: 5},
		"FALSE to FALSE":              {Kind: api.KindSub, Base: api.TypeBool},
		"a to z":                      {Kind: api.KindSub, Base: api.TypeChar, Low: 97, High: 122},
		"green to blue":               {Kind: api.KindSub, Base: color, Low: 1, High: 2},
		"whole constants, 1 to 2":     {Kind: api.KindSub, Base: api.TypeWhole, Low: 1, High: 2},
		"9 to 0":                      {Kind: api.KindSub, Base: api.TypeCard, Low: 9},
		"a set":                       {Kind: api.KindSet, Base: color},
		"a set of nothing":            {Kind: api.KindSet},
		"a set of what is too big":    {Kind: api.KindSet, Base: big},
		"a pointer":                   {Kind: api.KindPtr, Base: api.TypeInt},
		"one to nothing":              {Kind: api.KindPtr},
		"one to a forward type":       {Kind: api.KindPtr, Base: forward},
		"one to what is too big":      {Kind: api.KindPtr, Base: big},
		"one to no type":              {Kind: api.KindPtr, Base: -7},
		"an opaque type":              {Kind: api.KindHidden, Module: "m", Name: "t"},
		"an opaque one of another":    {Kind: api.KindHidden, Base: big, Index: forward},
		"a procedure":                 {Kind: api.KindProc},
		"a function":                  {Kind: api.KindProc, Result: api.TypeInt, Params: []api.Param{{Type: api.TypeInt}, {Var: true, Type: big}}},
		"one of what has no words":    {Kind: api.KindProc, Result: forward, Params: []api.Param{{Type: forward}, {Type: -1}}},
	} {
		x.Fields = fields(api.TypeStr, big, api.TypeInt)
		m.size(m.add(x), 1, api.OK, what)
	}
}

// P12.1: of open arrays: two words, whatever their elements are.
func TestSizeOpen(t *testing.T) {
	m := start(t)
	for _, of := range []int{api.TypeChar, api.TypeInt, api.TypeNone, api.TypeStr, m.forward(), m.row(40000, api.TypeInt), m.record(), -1, 5000} {
		open := m.add(api.Type{Kind: api.KindOpen, Base: of})
		m.size(open, 2, api.OK, fmt.Sprint("an open array of ", of))
		m.size(m.row(3, open), 6, api.OK, fmt.Sprint("an array of open arrays of ", of))
	}
}

// P12.1: of what has no words, and of what is made of that.
func TestSizeWithout(t *testing.T) {
	m := start(t)
	nib := m.sub(api.TypeCard, 0, 9)
	l := append(none(), api.TypeNone, api.TypeWhole, api.TypeStr, api.TypeNil, m.forward(), 1000)
	for _, of := range []int{nib, api.TypeNone, api.TypeStr, api.TypeNil, api.TypeBits, m.forward(), m.record(), m.row(2, nib), m.add(api.Type{Kind: api.KindPtr, Base: nib}), -1, 999} {
		l = append(l, m.sub(of, 0, 9))
	}
	for _, i := range l {
		what := fmt.Sprintf("%d, %+v", i, m.Get(i))
		m.size(i, 0, api.ErrArg, what)
		m.size(m.row(3, i), 0, api.ErrArg, "an array of "+what)
		m.size(m.row(0, i), 0, api.ErrArg, "an array of none of "+what)
		m.size(m.array(api.TypeInt, m.row(3, i)), 0, api.ErrArg, "a great array of arrays of "+what)
		m.size(m.record(api.TypeInt, i), 0, api.ErrArg, "a record of "+what)
		m.size(m.record(i, api.TypeInt), 0, api.ErrArg, "a record of, first, "+what)
		m.size(m.record(m.record(m.row(3, m.record(i)))), 0, api.ErrArg, "records of arrays of "+what)
		m.size(m.array(i, api.TypeInt), m.numbers(i), m.either(i), "an array whose index is "+what)
	}
}

// numbers is how many numbers the index i has, if an array of words of them may be; else 0.
func (m maker) numbers(i int) int {
	low, high, is := m.Range(i)
	if n := high - low + 1; is && n <= 32767 {
		return int(n)
	}
	return 0
}

// either is how Size of an array of words ends, whose index is i.
func (m maker) either(i int) api.Errno {
	if _, _, is := m.Range(i); !is {
		return api.ErrArg
	} else if m.numbers(i) == 0 {
		return api.ErrBig
	}
	return api.OK
}

// P12.1: arrays of each index.
func TestSizeIndex(t *testing.T) {
	m := start(t)
	color := m.add(api.Type{Kind: api.KindEnum, High: 2, Names: []string{"red", "green", "blue"}})
	nothing := m.record()
	for _, x := range []struct {
		index, n int
	}{
		{api.TypeBool, 2}, {api.TypeChar, 256}, {api.TypeNib, 16}, {color, 3},
		{m.sub(api.TypeInt, -5, 5), 11}, {m.sub(api.TypeCard, 1, 9), 9}, {m.sub(api.TypeBool, 1, 1), 1}, {m.sub(api.TypeChar, 97, 122), 26}, {m.sub(color, 1, 2), 2},
		{m.sub(api.TypeWhole, -3, 3), 7}, {m.sub(api.TypeInt, 7, 7), 1}, {m.sub(api.TypeCard, 0, 32766), 32767}, {m.sub(api.TypeInt, -32768, -2), 32767},
		{m.sub(api.TypeInt, 3, 2), 0}, {m.sub(api.TypeInt, 3, -2), 0}, {m.sub(api.TypeInt, math.MaxInt64, math.MinInt64), 0}, {m.sub(api.TypeInt, 1, math.MinInt64), 0},
		{m.sub(api.TypeInt, math.MinInt64, math.MinInt64), 1}, {m.sub(api.TypeInt, math.MaxInt64-1, math.MaxInt64), 2},
		{api.TypeInt, -1}, {api.TypeCard, -1}, {api.TypeWhole, -1}, {m.sub(api.TypeCard, 0, 32767), -1}, {m.sub(api.TypeInt, -32768, -1), -1},
		{m.sub(api.TypeInt, math.MinInt64, math.MaxInt64), -1}, {m.sub(api.TypeInt, 0, math.MaxInt64), -1}, {m.sub(api.TypeInt, math.MinInt64, 0), -1}, {m.sub(api.TypeInt, -1, math.MaxInt64), -1},
		{m.sub(api.TypeInt, 0, 1<<32-1), -1}, {m.sub(api.TypeInt, 0, 1<<32), -1}, {m.sub(api.TypeInt, 0, 1<<16-1), -1}, {m.sub(api.TypeInt, 0, 1<<16), -1},
	} {
		what := fmt.Sprintf("of index %d, %+v", x.index, m.Get(x.index))
		m.size(m.array(x.index, nothing), 0, api.OK, "an array of what has 0 words, "+what)
		if x.n < 0 {
			m.size(m.array(x.index, api.TypeInt), 0, api.ErrBig, "an array "+what)
			continue
		}
		m.size(m.array(x.index, api.TypeInt), x.n, api.OK, "an array "+what)
		m.size(m.row(1, m.array(x.index, api.TypeInt)), x.n, api.OK, "an array of an array "+what)
	}
	for _, index := range []int{api.TypeNone, api.TypeStr, api.TypeNil, api.TypeBits, nothing, m.row(2, api.TypeInt), m.forward(), m.sub(m.sub(api.TypeInt, 1, 2), 1, 2), m.sub(nothing, 1, 2), -1, 1 << 20} {
		m.size(m.array(index, api.TypeInt), 0, api.ErrArg, fmt.Sprint("an array whose index is ", index))
		m.size(m.array(index, nothing), 0, api.ErrArg, fmt.Sprint("an array of what has 0 words, whose index is ", index))
	}
}

// P12.1: products at the limit, and far beyond it.
func TestSizeTimes(t *testing.T) {
	for _, words := range []int64{1, 2, 3, 4, 5, 7, 8, 16, 127, 128, 255, 256, 257, 4096, 16383, 16384, 32766, 32767} {
		m := start(t)
		of := m.row(words, api.TypeInt)
		m.size(of, int(words), api.OK, "an array")
		most := 32767 / words
		for _, n := range []int64{0, 1, 2, 3, most - 1, most, most + 1, most + 2, 2 * most, 1 << 15, 1 << 16, 1 << 31, 1 << 32, 1 << 48, 1<<63 - 1, (1 << 62) / words * 4} {
			what := fmt.Sprintf("%d elements of %d words", n, words)
			if n > most {
				m.size(m.row(n, of), 0, api.ErrBig, what)
			} else if n >= 0 {
				m.size(m.row(n, of), int(n*words), api.OK, what)
			}
		}
		for shift := range 63 {
			n := int64(math.MinInt64) + 1<<shift
			if uint64(1)<<shift >= uint64(most) {
				m.size(m.array(m.sub(api.TypeInt, math.MinInt64, n), of), 0, api.ErrBig, fmt.Sprintf("from the least number to %d, of %d words", n, words))
				m.size(m.array(m.sub(api.TypeInt, math.MinInt64, -n), of), 0, api.ErrBig, fmt.Sprintf("from the least number to %d, of %d words", -n, words))
			}
		}
	}
}

// P12.1: records, also of arms, and of no fields.
func TestSizeRecord(t *testing.T) {
	m := start(t)
	none := m.record()
	five := m.row(5, api.TypeInt)
	m.size(none, 0, api.OK, "a record of no fields")
	m.size(m.record(none), 0, api.OK, "a record of that")
	m.size(m.row(9, none), 0, api.OK, "an array of that")
	m.size(m.array(api.TypeWhole, none), 0, api.OK, "a great array of that")
	m.size(m.record(none, none, api.TypeInt, none), 1, api.OK, "a record of that, and a number")
	m.size(m.record(api.TypeInt), 1, api.OK, "a record of a number")
	m.size(m.record(five, five, five), 15, api.OK, "a record of the same one three times")
	m.size(m.record(api.TypeInt, five, api.TypeBits, five, m.record(api.TypeChar, five)), 18, api.OK, "a record of records")
	m.size(m.record(m.add(api.Type{Kind: api.KindOpen, Base: api.TypeInt}), api.TypeInt), 3, api.OK, "a record of an open array")
	arms := api.Type{Kind: api.KindRec, Fields: []api.Field{{Type: api.TypeInt}, {Type: api.TypeBool, Arm: 1}, {Type: five, Arm: 2}, {Type: api.TypeChar, Arm: 2}, {Type: five, Arm: 3}, {Type: api.TypeInt, Arm: 4}, {Type: api.TypeInt, Arm: -1}, {Type: api.TypeInt, Arm: 99}}}
	m.size(m.add(arms), 16, api.OK, "a record of arms")
	arms.Arms = []api.Arm{{From: []int64{0}, To: []int64{0}}, {From: []int64{1}, To: []int64{1}}, {Else: true}}
	m.size(m.add(arms), 16, api.OK, "the same one, which tells its arms")
	other := api.Type{Kind: api.KindRec, Base: api.TypeNone, Index: -1, Result: -1, Low: 4, High: 2, Fields: fields(five, api.TypeInt), Params: []api.Param{{Type: -1}}}
	m.size(m.add(other), 6, api.OK, "a record that tells what records have not")
}

// P12.1: the example.
func TestSizeExample(t *testing.T) {
	m := start(t)
	two, three := m.row(2, api.TypeInt), m.row(3, api.TypeInt)
	rec := m.add(api.Type{Kind: api.KindRec, Fields: []api.Field{{Name: "a", Type: two}, {Name: "b", Type: api.TypeInt, Arm: 2}, {Name: "c", Type: three, Arm: 3}}})
	m.size(m.array(m.sub(api.TypeCard, 0, 3), rec), 24, api.OK, "the example")
}

// P12.1: at the limit all is as below it.
func TestSizeLimit(t *testing.T) {
	m := start(t)
	none := m.record()
	most := m.row(32767, api.TypeInt)
	half, less := m.row(16384, api.TypeInt), m.row(16383, api.TypeInt)
	m.size(m.record(most), 32767, api.OK, "a record at the limit")
	m.size(m.record(none, most, none, none), 32767, api.OK, "one at the limit, and nothing")
	m.size(m.record(half, less), 32767, api.OK, "two that make the limit")
	m.size(m.record(less, less, api.TypeInt), 32767, api.OK, "three that make the limit")
	m.size(m.row(1, m.record(half, less)), 32767, api.OK, "an array at the limit")
	m.size(m.record(half, half), 0, api.ErrBig, "one word more")
	m.size(m.record(most, api.TypeInt), 0, api.ErrBig, "one word more")
	m.size(m.record(api.TypeInt, most), 0, api.ErrBig, "one word more")
	m.size(m.record(half, less, none, api.TypeChar), 0, api.ErrBig, "one word more")
	m.size(m.row(2, most), 0, api.ErrBig, "twice the limit")
	m.size(m.row(2, m.record(half)), 0, api.ErrBig, "one word more")
	m.size(m.row(32768, api.TypeInt), 0, api.ErrBig, "one word more")
	m.size(m.add(api.Type{Kind: api.KindPtr, Base: m.record(half, half)}), 1, api.OK, "a pointer to what is too big")
}

// P12.1: what is asked first is told first.
func TestSizeOrder(t *testing.T) {
	m := start(t)
	big, without, nothing := m.row(32768, api.TypeInt), m.forward(), m.record()
	half := m.row(20000, api.TypeInt)
	bad := m.add(api.Type{Kind: api.KindArray, Index: api.TypeStr, Base: big})
	for _, x := range []struct {
		i    int
		e    api.Errno
		what string
	}{
		{bad, api.ErrArg, "an array of no index, of what is too big"},
		{m.array(api.TypeStr, without), api.ErrArg, "an array of no index, of what has none"},
		{m.array(api.TypeCard, without), api.ErrArg, "an array too great, of what has none"},
		{m.array(api.TypeCard, big), api.ErrBig, "an array too great, of what is too big"},
		{m.row(0, big), api.ErrBig, "no elements of what is too big"},
		{m.row(1, big), api.ErrBig, "one element of what is too big"},
		{m.row(0, bad), api.ErrArg, "no elements of what has none"},
		{m.row(2, m.row(2, bad)), api.ErrArg, "arrays of what has none"},
		{m.row(2, m.row(2, big)), api.ErrBig, "arrays of what is too big"},
		{m.record(big, without), api.ErrBig, "first too big"},
		{m.record(without, big), api.ErrArg, "first none"},
		{m.record(api.TypeInt, big, without), api.ErrBig, "first too big"},
		{m.record(api.TypeInt, without, big), api.ErrArg, "first none"},
		{m.record(half, half, without), api.ErrBig, "first two too big"},
		{m.record(half, without, half), api.ErrArg, "none between them"},
		{m.record(half, half, bad, without), api.ErrBig, "first two too big"},
		{m.record(half, nothing, without, half, half), api.ErrArg, "none between them"},
		{m.record(m.row(32767, api.TypeInt), without), api.ErrArg, "none behind the limit"},
		{m.record(m.row(32767, api.TypeInt), nothing, without), api.ErrArg, "none behind the limit"},
		{m.record(m.row(32767, api.TypeInt), api.TypeInt, without), api.ErrBig, "none behind one word more"},
		{m.record(m.record(big, without), without), api.ErrBig, "records, first too big"},
		{m.record(m.record(without, big), big), api.ErrArg, "records, first none"},
		{m.row(2, m.record(half, half, without)), api.ErrBig, "an array of records"},
		{m.array(api.TypeCard, m.record(half, without)), api.ErrArg, "a great array of records"},
		{m.array(api.TypeNone, m.record(big)), api.ErrArg, "no index"},
	} {
		m.size(x.i, 0, x.e, x.what)
	}
}

// P12.1: bases of pointers may be what is there behind them, also what they are in; types that were forward ones have the words of what they have become.
func TestSizeForward(t *testing.T) {
	m := start(t)
	q := m.forward()
	p := m.add(api.Type{Kind: api.KindPtr, Base: q})
	r := m.forward()
	m.size(q, 0, api.ErrArg, "a forward type")
	m.size(p, 1, api.OK, "a pointer to it")
	m.set(q, api.Type{Kind: api.KindRec, Fields: fields(p, p, api.TypeInt)})
	m.size(q, 3, api.OK, "a record that leads back to itself by pointers")
	m.size(m.row(4, q), 12, api.OK, "an array of it")
	late := m.row(5, q)
	m.set(r, api.Type{Kind: api.KindRec, Fields: fields(late, p)})
	m.size(r, 16, api.OK, "a record, of a less number than what it is of")
	self := m.forward()
	m.set(self, api.Type{Kind: api.KindPtr, Base: self})
	m.size(self, 1, api.OK, "a pointer to itself")
}
