package konst_test

import (
	"math"
	"math/big"
	"strings"
	"testing"

	"separatum/api"
	"separatum/konst"
)

func operators() []string {
	return strings.Fields("+ - * / DIV MOD AND OR = # < <= > >= IN")
}

// does asks for v, e of op with a and b.
func does(t *testing.T, op string, a, b, v any, e api.Errno) {
	t.Helper()
	if got, err := konst.Does(op, a, b); got != v || err != e {
		t.Fatalf("%T %v %s %T %v: %T %v, %d, not %T %v, %d", a, a, op, b, b, got, got, err, v, v, e)
	}
}

// one asks for v, e of op with a.
func one(t *testing.T, op string, a, v any, e api.Errno) {
	t.Helper()
	if got, err := konst.One(op, a); got != v || err != e {
		t.Fatalf("%s %T %v: %T %v, %d, not %T %v, %d", op, a, a, got, got, err, v, v, e)
	}
}

func TestDoesTable(t *testing.T) {
	type w = api.Whole
	type s = api.Bits
	for _, x := range []struct {
		op   string
		a, b any
		v    any
		e    api.Errno
	}{
		{"DIV", w(-7), w(2), w(-3), 0},
		{"IN", api.Letter(1), s(2), api.Truth(true), 0},

		{"+", w(1), w(2), w(3), 0},
		{"+", w(65535), w(0), w(65535), 0},
		{"+", w(65534), w(1), w(65535), 0},
		{"+", w(65535), w(1), nil, api.ErrOver},
		{"+", w(65535), w(-32768), w(32767), 0},
		{"+", w(-32767), w(-1), w(-32768), 0},
		{"+", w(-32768), w(-1), nil, api.ErrOver},
		{"-", w(1), w(2), w(-1), 0},
		{"-", w(-32768), w(1), nil, api.ErrOver},
		{"-", w(-32768), w(-32768), w(0), 0},
		{"-", w(0), w(32768), w(-32768), 0},
		{"-", w(0), w(32769), nil, api.ErrOver},
		{"-", w(65535), w(-1), nil, api.ErrOver},
		{"*", w(-3), w(5), w(-15), 0},
		{"*", w(255), w(257), w(65535), 0},
		{"*", w(256), w(256), nil, api.ErrOver},
		{"*", w(-256), w(128), w(-32768), 0},
		{"*", w(-32768), w(-1), w(32768), 0},
		{"*", w(-32768), w(-2), nil, api.ErrOver},
		{"*", w(65535), w(65535), nil, api.ErrOver},
		{"*", w(-32768), w(-32768), nil, api.ErrOver},

		{"DIV", w(7), w(2), w(3), 0},
		{"DIV", w(7), w(-2), w(-3), 0},
		{"DIV", w(-7), w(-2), w(3), 0},
		{"DIV", w(-32768), w(-1), w(32768), 0},
		{"DIV", w(32768), w(-1), w(-32768), 0},
		{"DIV", w(32769), w(-1), nil, api.ErrOver},
		{"DIV", w(65535), w(-1), nil, api.ErrOver},
		{"DIV", w(65535), w(-2), w(-32767), 0},
		{"DIV", w(0), w(0), nil, api.ErrZero},
		{"DIV", w(5), w(0), nil, api.ErrZero},
		{"MOD", w(7), w(2), w(1), 0},
		{"MOD", w(-7), w(2), w(-1), 0},
		{"MOD", w(7), w(-2), w(1), 0},
		{"MOD", w(-7), w(-2), w(-1), 0},
		{"MOD", w(-32768), w(-1), w(0), 0},
		{"MOD", w(5), w(0), nil, api.ErrZero},
		{"MOD", w(-5), w(0), nil, api.ErrZero},
		{"/", w(6), w(2), nil, api.ErrSort},
		{"AND", w(1), w(1), nil, api.ErrSort},
		{"IN", w(1), w(2), nil, api.ErrSort},

		{"+", s(5), s(3), s(7), 0},
		{"-", s(5), s(3), s(4), 0},
		{"*", s(5), s(3), s(1), 0},
		{"/", s(5), s(3), s(6), 0},
		{"<=", s(1), s(3), api.Truth(true), 0},
		{"<=", s(3), s(1), api.Truth(false), 0},
		{"<=", s(4), s(3), api.Truth(false), 0},
		{"<=", s(1), s(2), api.Truth(false), 0},
		{">=", s(3), s(1), api.Truth(true), 0},
		{">=", s(1), s(3), api.Truth(false), 0},
		{">=", s(4), s(3), api.Truth(false), 0},
		{"<", s(1), s(3), nil, api.ErrSort},
		{">", s(1), s(3), nil, api.ErrSort},
		{"DIV", s(1), s(0), nil, api.ErrSort},
		{"IN", s(1), s(3), nil, api.ErrSort},
		{"IN", w(0), s(1), api.Truth(true), 0},
		{"IN", w(15), s(0x8000), api.Truth(true), 0},
		{"IN", w(15), s(0x7FFF), api.Truth(false), 0},
		{"IN", w(16), s(0xFFFF), api.Truth(false), 0},
		{"IN", w(32), s(0xFFFF), api.Truth(false), 0},
		{"IN", w(65535), s(0xFFFF), api.Truth(false), 0},
		{"IN", w(-1), s(0xFFFF), api.Truth(false), 0},
		{"IN", w(-32768), s(0xFFFF), api.Truth(false), 0},
		{"IN", api.Truth(true), s(2), api.Truth(true), 0},
		{"IN", api.Truth(false), s(2), api.Truth(false), 0},
		{"IN", api.String("\x01"), s(2), api.Truth(true), 0},
		{"IN", api.String("a"), s(2), api.Truth(false), 0},
		{"IN", api.String(""), s(1), nil, api.ErrSort},
		{"IN", api.String("\x01\x01"), s(2), nil, api.ErrSort},
		{"IN", api.Item{Type: 10, N: 1}, s(2), api.Truth(true), 0},
		{"IN", api.Item{Type: 10, N: 65}, s(2), api.Truth(false), 0},
		{"IN", api.Item{Type: 10, N: math.MinInt64}, s(1), api.Truth(false), 0},
		{"IN", api.Null{}, s(1), nil, api.ErrSort},
		{"IN", s(2), w(1), nil, api.ErrSort},

		{"AND", api.Truth(true), api.Truth(true), api.Truth(true), 0},
		{"AND", api.Truth(true), api.Truth(false), api.Truth(false), 0},
		{"AND", api.Truth(false), api.Truth(true), api.Truth(false), 0},
		{"AND", api.Truth(false), api.Truth(false), api.Truth(false), 0},
		{"OR", api.Truth(true), api.Truth(true), api.Truth(true), 0},
		{"OR", api.Truth(true), api.Truth(false), api.Truth(true), 0},
		{"OR", api.Truth(false), api.Truth(true), api.Truth(true), 0},
		{"OR", api.Truth(false), api.Truth(false), api.Truth(false), 0},
		{"AND", api.Truth(false), w(1), nil, api.ErrSort},
		{"OR", w(1), api.Truth(true), nil, api.ErrSort},
		{"+", api.Truth(true), api.Truth(true), nil, api.ErrSort},
		{"<", api.Truth(false), api.Truth(true), api.Truth(true), 0},

		{"=", api.Null{}, api.Null{}, api.Truth(true), 0},
		{"#", api.Null{}, api.Null{}, api.Truth(false), 0},
		{"<=", api.Null{}, api.Null{}, nil, api.ErrSort},
		{">=", api.Null{}, api.Null{}, nil, api.ErrSort},
		{"=", api.Null{}, w(0), nil, api.ErrSort},
		{"=", s(0), w(0), nil, api.ErrSort},
		{"=", s(0), api.Null{}, nil, api.ErrSort},
		{"=", w(1), api.Truth(true), nil, api.ErrSort},
		{"=", w(97), api.Letter('a'), nil, api.ErrSort},
		{"=", w(97), api.String("a"), nil, api.ErrSort},
		{"=", api.Letter('a'), api.Letter('a'), api.Truth(true), 0},
		{"=", api.String("a"), api.String("a"), api.Truth(true), 0},
		{"<", api.String("a"), api.String("b"), api.Truth(true), 0},
		{"=", api.Letter('a'), api.String("a"), api.Truth(true), 0},
		{"#", api.String("a"), api.Letter('a'), api.Truth(false), 0},
		{"<", api.String("\x7F"), api.Letter(0x80), api.Truth(true), 0},
		{">", api.String("\xFF"), api.String("\x00"), api.Truth(true), 0},
		{"=", api.String("ab"), api.String("ab"), nil, api.ErrSort},
		{"=", api.String(""), api.String(""), nil, api.ErrSort},
		{"=", api.String(""), api.Letter(0), nil, api.ErrSort},
		{"<", api.String("a"), api.String("ab"), nil, api.ErrSort},
		{"+", api.String("a"), api.String("b"), nil, api.ErrSort},
		{"+", api.Letter('a'), w(1), nil, api.ErrSort},
		{"+", api.Letter(1), api.Letter(1), nil, api.ErrSort},
		{"=", api.Item{Type: 10, N: 1}, api.Item{Type: 10, N: 1}, api.Truth(true), 0},
		{"=", api.Item{Type: 10, N: 1}, api.Item{Type: 11, N: 1}, nil, api.ErrSort},
		{"<", api.Item{Type: 10, N: 1}, api.Item{Type: 10, N: 2}, api.Truth(true), 0},
		{">", api.Item{Type: 10, N: math.MaxInt64}, api.Item{Type: 10, N: math.MinInt64}, api.Truth(true), 0},
		{"+", api.Item{Type: 10, N: 1}, api.Item{Type: 10, N: 1}, nil, api.ErrSort},
		{"=", api.Item{Type: 10, N: 1}, w(1), nil, api.ErrSort},
	} {
		does(t, x.op, x.a, x.b, x.v, x.e)
	}
}

// strange are texts that are no operators between two values.
func strange() []string {
	return strings.Split("|NOT|&|~|<>|==|:=|div|mod|and|or|in|Div|+ | +|++|DIVMOD|DI|D|=<|=>|,|^|..|ABS|\x00|+\x00|//|<<", "|")
}

// What is no operator is told ahead of what is no value.
func TestDoesNoOperator(t *testing.T) {
	var all []any
	for _, x := range values() {
		all = append(all, x.v)
	}
	all = append(all, nones()...)
	for _, op := range strange() {
		for _, a := range all {
			does(t, op, a, a, nil, api.ErrOp)
			does(t, op, a, api.Whole(1), nil, api.ErrOp)
			does(t, op, api.Bits(1), a, nil, api.ErrOp)
			if op != "NOT" {
				one(t, op, a, nil, api.ErrOp)
			}
		}
	}
	for _, op := range operators() {
		if op == "+" || op == "-" {
			continue
		}
		for _, a := range all {
			one(t, op, a, nil, api.ErrOp)
		}
	}
}

func TestDoesNoValue(t *testing.T) {
	for _, op := range operators() {
		for _, none := range nones() {
			for _, x := range values() {
				does(t, op, x.v, none, nil, api.ErrSort)
				does(t, op, none, x.v, nil, api.ErrSort)
			}
			does(t, op, none, none, nil, api.ErrSort)
		}
	}
}

// wanted is what the chapter's table tells of values that are known.
func wanted(op string, a, b known) (any, api.Errno) {
	sorts := a.sort + " " + op + " " + b.sort
	arithmetic := strings.Contains(" + - * DIV MOD ", " "+op+" ")
	relation := strings.Contains(" = # < <= > >= ", " "+op+" ")
	switch {
	case sorts == "Whole "+op+" Whole" && arithmetic:
		return whole(op, a.number, b.number)
	case sorts == "Truth AND Truth":
		return api.Truth(a.number+b.number == 2), api.OK
	case sorts == "Truth OR Truth":
		return api.Truth(a.number+b.number != 0), api.OK
	case sorts == "Bits "+op+" Bits":
		return set(op, a.word, b.word)
	case op == "IN" && a.has && b.sort == "Bits":
		return api.Truth(a.number >= 0 && a.number <= 15 && elements(b.word)[a.number]), api.OK
	case relation && a.has && b.has && fits(a.sort, b.sort):
		return api.Truth(relations(big.NewInt(a.number).Cmp(big.NewInt(b.number)))[op] == 1), api.OK
	case sorts == "Null = Null":
		return api.Truth(true), api.OK
	case sorts == "Null # Null":
		return api.Truth(false), api.OK
	}
	return nil, api.ErrSort
}

// fits tells whether those of a sort that have a number are held against those of another.
func fits(a, b string) bool {
	return strings.ReplaceAll(a, "String", "Letter") == strings.ReplaceAll(b, "String", "Letter")
}

// relations are those that hold, if the first one is less (below 0), the same (0), or greater.
func relations(c int) map[string]int {
	switch {
	case c < 0:
		return map[string]int{"#": 1, "<": 1, "<=": 1}
	case c > 0:
		return map[string]int{"#": 1, ">": 1, ">=": 1}
	}
	return map[string]int{"=": 1, "<=": 1, ">=": 1}
}

// whole is what becomes of whole numbers, worked out by numbers of any length.
func whole(op string, a, b int64) (any, api.Errno) {
	x, y, z := big.NewInt(a), big.NewInt(b), new(big.Int)
	switch op {
	case "+":
		z.Add(x, y)
	case "-":
		z.Sub(x, y)
	case "*":
		z.Mul(x, y)
	default:
		if b == 0 {
			return nil, api.ErrZero
		}
		rest := new(big.Int)
		z.QuoRem(x, y, rest)
		if op == "MOD" {
			z = rest
		}
	}
	if z.Cmp(big.NewInt(-32768)) < 0 || z.Cmp(big.NewInt(65535)) > 0 {
		return nil, api.ErrOver
	}
	return api.Whole(z.Int64()), api.OK
}

// elements are those that a set has, worked out by halving.
func elements(w uint16) [16]bool {
	var l [16]bool
	for i := range l {
		l[i] = w%2 == 1
		w /= 2
	}
	return l
}

// set is what becomes of sets, element by element.
func set(op string, a, b uint16) (any, api.Errno) {
	x, y := elements(a), elements(b)
	made, value, inside, around := 0, 1, true, true
	for i := range x {
		has := map[string]bool{"+": x[i] || y[i], "-": x[i] && !y[i], "*": x[i] && y[i], "/": x[i] != y[i]}
		if has[op] {
			made += value
		}
		inside, around = inside && (!x[i] || y[i]), around && (!y[i] || x[i])
		value *= 2
	}
	switch op {
	case "+", "-", "*", "/":
		return api.Bits(made), api.OK
	case "<=":
		return api.Truth(inside), api.OK
	case ">=":
		return api.Truth(around), api.OK
	case "=":
		return api.Truth(x == y), api.OK
	case "#":
		return api.Truth(x != y), api.OK
	}
	return nil, api.ErrSort
}

func TestDoesOfAll(t *testing.T) {
	for _, op := range operators() {
		for _, a := range values() {
			for _, b := range values() {
				v, e := wanted(op, a, b)
				if !open(op, a, b) {
					does(t, op, a.v, b.v, v, e)
				}
			}
		}
	}
}

// open tells whether a rest is asked for whose quotient is no Whole: what stands in the table may be read either way.
func open(op string, a, b known) bool {
	return op == "MOD" && a.sort == "Whole" && b.sort == "Whole" && a.number > 32768 && b.number == -1
}

// Numbers around the edges, and around their roots, halves and parts.
func TestDoesOfWholes(t *testing.T) {
	var l []int64
	for _, n := range []int64{-32768, -16384, -256, -181, 0, 181, 255, 257, 21845, 32768, 43690, 65535} {
		for i := n - 3; i <= n+3; i++ {
			if konst.Is(api.Whole(i)) {
				l = append(l, i)
			}
		}
	}
	for _, op := range operators() {
		for _, a := range l {
			for _, b := range l {
				x := known{v: api.Whole(a), sort: "Whole", number: a, has: true}
				y := known{v: api.Whole(b), sort: "Whole", number: b, has: true}
				v, e := wanted(op, x, y)
				if !open(op, x, y) {
					does(t, op, x.v, y.v, v, e)
				}
			}
		}
	}
}

func TestDoesOfBits(t *testing.T) {
	for a := range 64 {
		for b := range 64 {
			for _, shift := range []int{0, 5, 10} {
				for _, op := range operators() {
					x, y := uint16(a<<shift), uint16(b<<shift)
					v, e := set(op, x, y)
					does(t, op, api.Bits(x), api.Bits(y), v, e)
				}
			}
		}
	}
	for w := range 1 << 16 {
		for n, has := range elements(uint16(w)) {
			if v, e := konst.Does("IN", api.Whole(n), api.Bits(w)); v != api.Truth(has) || e != api.OK {
				t.Fatalf("%d IN %#x: %v, %d", n, w, v, e)
			}
		}
	}
}

func TestDoesOfLetters(t *testing.T) {
	for a := range 256 {
		for b := range 256 {
			c := relations(a - b)
			x, y := api.Letter(a), api.Letter(b)
			s, u := api.String([]byte{byte(a)}), api.String([]byte{byte(b)})
			for _, op := range []string{"=", "#", "<", "<=", ">", ">="} {
				for _, pair := range [][2]any{{x, y}, {s, u}, {x, u}, {s, y}} {
					if v, e := konst.Does(op, pair[0], pair[1]); v != api.Truth(c[op] == 1) || e != api.OK {
						t.Fatalf("%T %d %s %T %d: %v, %d", pair[0], a, op, pair[1], b, v, e)
					}
				}
			}
		}
	}
}

func TestOne(t *testing.T) {
	one(t, "NOT", api.Truth(true), api.Truth(false), api.OK)
	one(t, "NOT", api.Truth(false), api.Truth(true), api.OK)
	for n := int64(-32768); n <= 65535; n++ {
		one(t, "+", api.Whole(n), api.Whole(n), api.OK)
		if n <= 32768 {
			one(t, "-", api.Whole(n), api.Whole(-n), api.OK)
		} else {
			one(t, "-", api.Whole(n), nil, api.ErrOver)
		}
		one(t, "NOT", api.Whole(n), nil, api.ErrSort)
	}
	for _, x := range values() {
		if x.sort != "Whole" {
			one(t, "+", x.v, nil, api.ErrSort)
			one(t, "-", x.v, nil, api.ErrSort)
		}
		if x.sort != "Truth" {
			one(t, "NOT", x.v, nil, api.ErrSort)
		}
	}
	for _, v := range nones() {
		if _, is := v.(api.Whole); is {
			continue
		}
		for _, op := range []string{"+", "-", "NOT"} {
			one(t, op, v, nil, api.ErrSort)
		}
	}
	for _, op := range []string{"", "not", "~", "ABS", "*", "/", "=", "IN", "--", "+ "} {
		one(t, op, api.Whole(1), nil, api.ErrOp)
		one(t, op, api.Truth(true), nil, api.ErrOp)
		one(t, op, nil, nil, api.ErrOp)
	}
}
