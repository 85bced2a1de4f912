package layout

import (
	"separatum/api"
	"separatum/types"
)

// measure is what is known of a table's types during one call. A type is measured once, however often others name it: records of records double that with each one.
type measure struct {
	t     *types.Table
	kinds map[uint8]func(i int) (int, api.Errno)
	known map[int]result
}

// result is how many words a type has, or why it has none.
type result struct {
	n int
	e api.Errno
}

// measuring is a measure that knows nothing yet.
func measuring(t *types.Table) *measure {
	m := &measure{t: t, known: map[int]result{}}
	m.kinds = m.sizes()
	return m
}

// sizes are those of the kinds; types of all other kinds have no words.
func (m *measure) sizes() map[uint8]func(i int) (int, api.Errno) {
	ordinal := func(i int) (int, api.Errno) {
		if !m.t.Ordinal(i) {
			return 0, api.ErrArg
		}
		return 1, api.OK
	}
	fixed := func(n int) func(int) (int, api.Errno) {
		return func(int) (int, api.Errno) { return n, api.OK }
	}
	return map[uint8]func(i int) (int, api.Errno){
		api.KindInt:    ordinal,
		api.KindCard:   ordinal,
		api.KindBool:   ordinal,
		api.KindChar:   ordinal,
		api.KindEnum:   ordinal,
		api.KindSub:    ordinal,
		api.KindSet:    fixed(1),
		api.KindPtr:    fixed(1),
		api.KindHidden: fixed(1),
		api.KindProc:   fixed(1),
		api.KindOpen:   fixed(2),
		api.KindArray:  func(i int) (int, api.Errno) { return m.array(m.t.Get(i)) },
		api.KindRec:    func(i int) (int, api.Errno) { return m.together(m.t.Get(i).Fields) },
	}
}

// words is how many the type i has.
func (m *measure) words(i int) (int, api.Errno) {
	if r, is := m.known[i]; is {
		return r.n, r.e
	}
	// This is met by a type that leads back to itself; without it that would not end.
	m.known[i] = result{e: api.ErrArg}
	size := m.kinds[m.t.Get(i).Kind]
	if size == nil {
		return 0, api.ErrArg
	}
	n, e := size(i)
	m.known[i] = result{n: n, e: e}
	return n, e
}

// array is how many words the array x has.
func (m *measure) array(x api.Type) (int, api.Errno) {
	low, high, is := m.t.Range(x.Index)
	if !is {
		return 0, api.ErrArg
	}
	n, e := m.words(x.Base)
	if e != api.OK {
		return 0, e
	}
	return times(n, low, high)
}

// times is n as often as there are numbers from low to high.
func times(n int, low, high int64) (int, api.Errno) {
	if n == 0 || high < low {
		return 0, api.OK
	}
	// The difference is taken as one without a sign: low and high may be as far apart as numbers go.
	last := uint64(high) - uint64(low)
	if last >= uint64(api.MaxWords/n) {
		return 0, api.ErrBig
	}
	return n * (int(last) + 1), api.OK
}

// together is how many words all these fields have.
func (m *measure) together(l []api.Field) (int, api.Errno) {
	all := 0
	for _, f := range l {
		n, e := m.words(f.Type)
		if e != api.OK {
			return 0, e
		}
		if all += n; all > api.MaxWords {
			return 0, api.ErrBig
		}
	}
	return all, api.OK
}
