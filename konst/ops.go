package konst

import "separatum/api"

// Does is what op makes of a and b.
func Does(op string, a, b any) (any, api.Errno) {
	if !operator(op) {
		return nil, api.ErrOp
	}
	x, y := tell(a), tell(b)
	for _, row := range rows(x, y) {
		if f := row[op]; f != nil {
			return f(x.n, y.n)
		}
	}
	return nil, api.ErrSort
}

// One is what op makes of a.
func One(op string, a any) (any, api.Errno) {
	f := signs()[op]
	if f == nil {
		return nil, api.ErrOp
	}
	return f(tell(a))
}

// operator tells whether op is one that may stand between two values.
func operator(op string) bool {
	switch op {
	case "+", "-", "*", "/", "DIV", "MOD", "AND", "OR", "=", "#", "<", "<=", ">", ">=", "IN":
		return true
	}
	return false
}

// doing is what becomes of two values, of which it takes the numbers (of Bits the words).
type doing func(x, y int64) (any, api.Errno)

// rows are the operators that there are for x and y; of what is no value there are none.
func rows(x, y value) []map[string]doing {
	var l []map[string]doing
	if ordered(x, y) {
		l = append(l, questions())
	}
	switch {
	case both(x, y, sortWhole):
		l = append(l, wholes())
	case both(x, y, sortTruth):
		l = append(l, truths())
	case both(x, y, sortBits):
		l = append(l, sets(), equals())
	case both(x, y, sortNull):
		l = append(l, equals())
	case x.numbered() && y.sort == sortBits:
		l = append(l, members())
	}
	return l
}

// both tells whether x and y are of that sort.
func both(x, y value, sort int) bool { return x.sort == sort && y.sort == sort }

// ordered tells whether x and y are held against each other by their numbers.
func ordered(x, y value) bool {
	if x.lettered() && y.lettered() {
		return true
	}
	return x.numbered() && y.numbered() && x.sort == y.sort && x.typ == y.typ
}

func wholes() map[string]doing {
	return map[string]doing{
		"+":   func(x, y int64) (any, api.Errno) { return fit(x + y) },
		"-":   func(x, y int64) (any, api.Errno) { return fit(x - y) },
		"*":   func(x, y int64) (any, api.Errno) { return fit(x * y) },
		"DIV": over(func(x, y int64) int64 { return x / y }),
		"MOD": over(func(x, y int64) int64 { return x % y }),
	}
}

func truths() map[string]doing {
	return map[string]doing{
		"AND": func(x, y int64) (any, api.Errno) { return truth(x == 1 && y == 1) },
		"OR":  func(x, y int64) (any, api.Errno) { return truth(x == 1 || y == 1) },
	}
}

func sets() map[string]doing {
	return map[string]doing{
		"+":  func(x, y int64) (any, api.Errno) { return api.Bits(x | y), api.OK },
		"-":  func(x, y int64) (any, api.Errno) { return api.Bits(x &^ y), api.OK },
		"*":  func(x, y int64) (any, api.Errno) { return api.Bits(x & y), api.OK },
		"/":  func(x, y int64) (any, api.Errno) { return api.Bits(x ^ y), api.OK },
		"<=": func(x, y int64) (any, api.Errno) { return truth(x&^y == 0) },
		">=": func(x, y int64) (any, api.Errno) { return truth(y&^x == 0) },
	}
}

// members asks for a bit; behind the sixteenth one of a word's there is none that is set.
func members() map[string]doing {
	return map[string]doing{
		"IN": func(x, y int64) (any, api.Errno) { return truth(x >= 0 && y>>x&1 == 1) },
	}
}

func questions() map[string]doing {
	return map[string]doing{
		"=":  func(x, y int64) (any, api.Errno) { return truth(x == y) },
		"#":  func(x, y int64) (any, api.Errno) { return truth(x != y) },
		"<":  func(x, y int64) (any, api.Errno) { return truth(x < y) },
		"<=": func(x, y int64) (any, api.Errno) { return truth(x <= y) },
		">":  func(x, y int64) (any, api.Errno) { return truth(x > y) },
		">=": func(x, y int64) (any, api.Errno) { return truth(x >= y) },
	}
}

func equals() map[string]doing {
	return map[string]doing{
		"=": func(x, y int64) (any, api.Errno) { return truth(x == y) },
		"#": func(x, y int64) (any, api.Errno) { return truth(x != y) },
	}
}

// signs are the operators that stand ahead of one value.
func signs() map[string]func(x value) (any, api.Errno) {
	return map[string]func(x value) (any, api.Errno){
		"+": func(x value) (any, api.Errno) { return signed(x, x.n) },
		"-": func(x value) (any, api.Errno) { return signed(x, -x.n) },
		"NOT": func(x value) (any, api.Errno) {
			if x.sort != sortTruth {
				return nil, api.ErrSort
			}
			return truth(x.n == 0)
		},
	}
}

// over is what divides, unless it would be by 0.
func over(divide func(x, y int64) int64) doing {
	return func(x, y int64) (any, api.Errno) {
		if y == 0 {
			return nil, api.ErrZero
		}
		return fit(divide(x, y))
	}
}

// signed is the Whole n that is made of x.
func signed(x value, n int64) (any, api.Errno) {
	if x.sort != sortWhole {
		return nil, api.ErrSort
	}
	return fit(n)
}

// fit is the Whole n.
func fit(n int64) (any, api.Errno) {
	if !within(n) {
		return nil, api.ErrOver
	}
	return api.Whole(n), api.OK
}

// truth is the answer to a question.
func truth(is bool) (any, api.Errno) { return api.Truth(is), api.OK }
