package konst

import "separatum/api"

// The sorts of values.
const (
	sortNone = iota // no value
	sortWhole
	sortLetter
	sortTruth
	sortBits
	sortString
	sortItem
	sortNull
)

// value is what an any is: its sort, its type (of an Item), its text (of a String), its number (of Bits their word, of what has none 0). Two are equal just if they are the same value, or none.
type value struct {
	sort int
	typ  int
	text string
	n    int64
}

// tell tells what v is.
func tell(v any) value {
	if x, ok := v.(api.Whole); ok && within(int64(x)) {
		return value{sort: sortWhole, n: int64(x)}
	}
	if x, ok := v.(api.Letter); ok {
		return value{sort: sortLetter, n: int64(x)}
	}
	if x, ok := v.(api.Truth); ok {
		return value{sort: sortTruth, n: ordinal(x)}
	}
	if x, ok := v.(api.Bits); ok {
		return value{sort: sortBits, n: int64(x)}
	}
	if x, ok := v.(api.String); ok {
		return value{sort: sortString, text: string(x), n: letter(string(x))}
	}
	if x, ok := v.(api.Item); ok {
		return value{sort: sortItem, typ: x.Type, n: x.N}
	}
	if _, ok := v.(api.Null); ok {
		return value{sort: sortNull}
	}
	return value{}
}

// whole is v, which is a Whole; else the assertion panics.
func whole(v any) api.Whole { return v.(api.Whole) }

// within tells whether there is a Whole n.
func within(n int64) bool { return n >= api.MinWhole && n <= api.MaxWhole }

// ordinal is a Truth's number.
func ordinal(t api.Truth) int64 {
	if t {
		return 1
	}
	return 0
}

// letter is the number of the Letter that s is taken for; 0, if it is taken for none.
func letter(s string) int64 {
	if len(s) != 1 {
		return 0
	}
	return int64(s[0])
}

// numbered tells whether x has a number.
func (x value) numbered() bool {
	switch x.sort {
	case sortWhole, sortTruth, sortItem:
		return true
	}
	return x.lettered()
}

// lettered tells whether x is a Letter, or taken for one.
func (x value) lettered() bool {
	return x.sort == sortLetter || x.sort == sortString && len(x.text) == 1
}
