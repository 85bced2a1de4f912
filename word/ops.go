package word

import "separatum/api"

// doing is what becomes of two words: a word, or 0 and a trap. Of ops that take one word b is left alone.
type doing func(a, b uint16) (uint16, uint8)

// Does is what op makes of a and b, and TrapNone; or 0, and the trap.
func Does(op uint8, a, b uint16) (uint16, uint8) {
	f := find(op)
	if f == nil {
		return 0, api.TrapCode
	}
	return f(a, b)
}

// find is what op does; nil, if it is no op. A map may not be kept, and a machine asks at each step: so there are several small ones, which are cheap to make.
func find(op uint8) doing {
	switch {
	case op <= api.OpIAbs:
		return integers(op)
	case op <= api.OpCMod:
		return cardinals(op)
	case op <= api.OpIGe:
		return integerQuestions(op)
	case op <= api.OpNot:
		return cardinalQuestions(op)
	}
	return sets(op)
}

func integers(op uint8) doing {
	return map[uint8]doing{
		api.OpIAdd: func(a, b uint16) (uint16, uint8) { return fit[int16](value[int16](a) + value[int16](b)) },
		api.OpISub: func(a, b uint16) (uint16, uint8) { return fit[int16](value[int16](a) - value[int16](b)) },
		api.OpIMul: func(a, b uint16) (uint16, uint8) { return fit[int16](value[int16](a) * value[int16](b)) },
		api.OpIDiv: func(a, b uint16) (uint16, uint8) { return quotient[int16](a, b) },
		api.OpIMod: func(a, b uint16) (uint16, uint8) { return remainder[int16](a, b) },
		api.OpINeg: func(a, _ uint16) (uint16, uint8) { return fit[int16](-value[int16](a)) },
		api.OpIAbs: func(a, _ uint16) (uint16, uint8) {
			n := value[int16](a)
			return fit[int16](max(n, -n))
		},
	}[op]
}

func cardinals(op uint8) doing {
	return map[uint8]doing{
		api.OpCAdd: func(a, b uint16) (uint16, uint8) { return fit[uint16](value[uint16](a) + value[uint16](b)) },
		api.OpCSub: func(a, b uint16) (uint16, uint8) { return fit[uint16](value[uint16](a) - value[uint16](b)) },
		api.OpCMul: func(a, b uint16) (uint16, uint8) { return fit[uint16](value[uint16](a) * value[uint16](b)) },
		api.OpCDiv: func(a, b uint16) (uint16, uint8) { return quotient[uint16](a, b) },
		api.OpCMod: func(a, b uint16) (uint16, uint8) { return remainder[uint16](a, b) },
	}[op]
}

func integerQuestions(op uint8) doing {
	return map[uint8]doing{
		api.OpEq:  func(a, b uint16) (uint16, uint8) { return truth(a == b) },
		api.OpNe:  func(a, b uint16) (uint16, uint8) { return truth(a != b) },
		api.OpILt: func(a, b uint16) (uint16, uint8) { return truth(compare[int16](a, b) < 0) },
		api.OpILe: func(a, b uint16) (uint16, uint8) { return truth(compare[int16](a, b) <= 0) },
		api.OpIGt: func(a, b uint16) (uint16, uint8) { return truth(compare[int16](a, b) > 0) },
		api.OpIGe: func(a, b uint16) (uint16, uint8) { return truth(compare[int16](a, b) >= 0) },
	}[op]
}

func cardinalQuestions(op uint8) doing {
	return map[uint8]doing{
		api.OpCLt: func(a, b uint16) (uint16, uint8) { return truth(compare[uint16](a, b) < 0) },
		api.OpCLe: func(a, b uint16) (uint16, uint8) { return truth(compare[uint16](a, b) <= 0) },
		api.OpCGt: func(a, b uint16) (uint16, uint8) { return truth(compare[uint16](a, b) > 0) },
		api.OpCGe: func(a, b uint16) (uint16, uint8) { return truth(compare[uint16](a, b) >= 0) },
		api.OpNot: func(a, _ uint16) (uint16, uint8) { return truth(a == 0) },
	}[op]
}

func sets(op uint8) doing {
	return map[uint8]doing{
		api.OpOr:   func(a, b uint16) (uint16, uint8) { return a | b, api.TrapNone },
		api.OpAndN: func(a, b uint16) (uint16, uint8) { return a &^ b, api.TrapNone },
		api.OpAnd:  func(a, b uint16) (uint16, uint8) { return a & b, api.TrapNone },
		api.OpXor:  func(a, b uint16) (uint16, uint8) { return a ^ b, api.TrapNone },
		api.OpIn:   func(a, b uint16) (uint16, uint8) { return truth(a <= lastElement && b>>a&1 == 1) },
		api.OpSub:  func(a, b uint16) (uint16, uint8) { return truth(a&^b == 0) },
		api.OpOne:  func(a, _ uint16) (uint16, uint8) { return row(a, a) },
		api.OpRow:  func(a, b uint16) (uint16, uint8) { return row(a, b) },
	}[op]
}

// lastElement is the greatest number that a set may have.
const lastElement = 15

// row is the set of all from low to high.
func row(low, high uint16) (uint16, uint8) {
	if low > lastElement || high > lastElement {
		return 0, api.TrapRange
	}
	var s uint16
	for i := low; i <= high; i++ {
		s |= 1 << i
	}
	return s, api.TrapNone
}

// truth is the word of an answer to a question.
func truth(is bool) (uint16, uint8) {
	if is {
		return 1, api.TrapNone
	}
	return 0, api.TrapNone
}

// value is w as a number of the kind N, with room for what becomes of two of them.
func value[N number](w uint16) int64 { return int64(N(w)) }

// fit is the word that is n, if n is a number of the kind N.
func fit[N number](n int64) (uint16, uint8) {
	if int64(N(n)) != n {
		return 0, api.TrapOverflow
	}
	return uint16(n), api.TrapNone
}

func quotient[N number](a, b uint16) (uint16, uint8) {
	if b == 0 {
		return 0, api.TrapZero
	}
	return fit[N](value[N](a) / value[N](b))
}

func remainder[N number](a, b uint16) (uint16, uint8) {
	if b == 0 {
		return 0, api.TrapZero
	}
	return fit[N](value[N](a) % value[N](b))
}
