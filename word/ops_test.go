package word

import (
	"testing"

	"separatum/api"
)

// P1.1
func TestTakes(t *testing.T) {
	one := []uint8{api.OpINeg, api.OpIAbs, api.OpNot, api.OpOne}
	for n := range 256 {
		op, want := uint8(n), 2
		if n < 1 || n > 31 {
			want = 0
		}
		for _, x := range one {
			if x == op {
				want = 1
			}
		}
		if got := Takes(op); got != want {
			t.Errorf("Takes(%d): %d, want %d", op, got, want)
		}
	}
}

// P1.2: row by row of the chapter's table, and its edges.
func TestDoes(t *testing.T) {
	const none, over, zero, beyond = api.TrapNone, api.TrapOverflow, api.TrapZero, api.TrapRange
	for _, x := range []struct {
		op, trap   uint8
		a, b, want uint16
	}{
		{api.OpIAdd, none, 2, 3, 5}, {api.OpIAdd, none, 65535, 1, 0}, {api.OpIAdd, none, 32766, 1, 32767}, {api.OpIAdd, none, 32769, 65535, 32768},
		{api.OpIAdd, over, 32767, 1, 0}, {api.OpIAdd, over, 32768, 65535, 0}, {api.OpIAdd, over, 32768, 32768, 0},
		{api.OpISub, none, 2, 3, 65535}, {api.OpISub, none, 32769, 1, 32768}, {api.OpISub, over, 32768, 1, 0}, {api.OpISub, over, 0, 32768, 0}, {api.OpISub, none, 65535, 32768, 32767},
		{api.OpIMul, none, 65535, 7, 65529}, {api.OpIMul, none, 181, 181, 32761}, {api.OpIMul, over, 182, 182, 0}, {api.OpIMul, none, 256, 65408, 32768}, {api.OpIMul, over, 256, 128, 0}, {api.OpIMul, over, 32768, 65535, 0}, {api.OpIMul, over, 32768, 32768, 0},
		{api.OpIDiv, none, 7, 2, 3}, {api.OpIDiv, none, 65529, 2, 65533}, {api.OpIDiv, none, 7, 65534, 65533}, {api.OpIDiv, none, 65529, 65534, 3}, {api.OpIDiv, over, 32768, 65535, 0}, {api.OpIDiv, none, 32769, 65535, 32767}, {api.OpIDiv, none, 32768, 1, 32768}, {api.OpIDiv, zero, 7, 0, 0}, {api.OpIDiv, zero, 0, 0, 0},
		{api.OpIMod, none, 7, 2, 1}, {api.OpIMod, none, 65529, 2, 65535}, {api.OpIMod, none, 7, 65534, 1}, {api.OpIMod, none, 65529, 65534, 65535}, {api.OpIMod, none, 32768, 65535, 0}, {api.OpIMod, zero, 7, 0, 0}, {api.OpIMod, zero, 32768, 0, 0},
		{api.OpINeg, none, 7, 99, 65529}, {api.OpINeg, none, 0, 99, 0}, {api.OpINeg, none, 32767, 0, 32769}, {api.OpINeg, none, 32769, 0, 32767}, {api.OpINeg, over, 32768, 0, 0},
		{api.OpIAbs, none, 7, 99, 7}, {api.OpIAbs, none, 65529, 0, 7}, {api.OpIAbs, none, 0, 1, 0}, {api.OpIAbs, none, 32767, 0, 32767}, {api.OpIAbs, none, 32769, 0, 32767}, {api.OpIAbs, over, 32768, 0, 0},

		{api.OpCAdd, none, 32767, 1, 32768}, {api.OpCAdd, none, 65534, 1, 65535}, {api.OpCAdd, over, 65535, 1, 0}, {api.OpCAdd, over, 65535, 65535, 0},
		{api.OpCSub, none, 3, 2, 1}, {api.OpCSub, none, 65535, 65535, 0}, {api.OpCSub, over, 1, 2, 0}, {api.OpCSub, over, 0, 65535, 0},
		{api.OpCMul, none, 255, 257, 65535}, {api.OpCMul, over, 256, 256, 0}, {api.OpCMul, over, 65535, 65535, 0}, {api.OpCMul, none, 65535, 1, 65535}, {api.OpCMul, none, 65535, 0, 0},
		{api.OpCDiv, none, 65535, 2, 32767}, {api.OpCDiv, none, 32768, 65535, 0}, {api.OpCDiv, zero, 7, 0, 0},
		{api.OpCMod, none, 65529, 2, 1}, {api.OpCMod, none, 32768, 65535, 32768}, {api.OpCMod, zero, 7, 0, 0},

		{api.OpNot, none, 0, 5, 1}, {api.OpNot, none, 1, 0, 0}, {api.OpNot, none, 2, 0, 0}, {api.OpNot, none, 65535, 0, 0},

		{api.OpOr, none, 12, 10, 14}, {api.OpAndN, none, 12, 10, 4}, {api.OpAnd, none, 12, 10, 8}, {api.OpXor, none, 12, 10, 6},
		{api.OpIn, none, 3, 8, 1}, {api.OpIn, none, 2, 8, 0}, {api.OpIn, none, 0, 1, 1}, {api.OpIn, none, 15, 32768, 1}, {api.OpIn, none, 16, 65535, 0}, {api.OpIn, none, 65535, 65535, 0}, {api.OpIn, none, 19, 8, 0},
		{api.OpSub, none, 8, 12, 1}, {api.OpSub, none, 12, 8, 0}, {api.OpSub, none, 0, 0, 1}, {api.OpSub, none, 12, 12, 1}, {api.OpSub, none, 32768, 32767, 0},
		{api.OpOne, none, 0, 9, 1}, {api.OpOne, none, 15, 9, 32768}, {api.OpOne, beyond, 16, 0, 0}, {api.OpOne, beyond, 65535, 0, 0}, {api.OpOne, none, 3, 16, 8},
		{api.OpRow, none, 2, 4, 28}, {api.OpRow, none, 0, 15, 65535}, {api.OpRow, none, 15, 15, 32768}, {api.OpRow, none, 4, 2, 0}, {api.OpRow, none, 15, 0, 0},
		{api.OpRow, beyond, 16, 2, 0}, {api.OpRow, beyond, 2, 16, 0}, {api.OpRow, beyond, 16, 16, 0}, {api.OpRow, beyond, 65535, 0, 0},
	} {
		if got, trap := Does(x.op, x.a, x.b); got != x.want || trap != x.trap {
			t.Errorf("Does(%d, %d, %d): %d, trap %d; want %d, trap %d", x.op, x.a, x.b, got, trap, x.want, x.trap)
		}
	}
}

// P1.2: what is no op is TrapCode, whatever the words; and what is one never is.
func TestDoesCode(t *testing.T) {
	for n := range 256 {
		for _, a := range []uint16{0, 1, 15, 16, 32768, 65535} {
			got, trap := Does(uint8(n), a, 1)
			if is := n >= 1 && n <= 31; is == (trap == api.TrapCode) || !is && got != 0 {
				t.Errorf("Does(%d, %d, 1): %d, trap %d", n, a, got, trap)
			}
		}
	}
}

// pairs calls f with two words at the edges, and with others all over.
func pairs(f func(a, b uint16)) {
	l := somewhere()
	for _, a := range l {
		for _, b := range l {
			f(a, b)
		}
	}
	for a := 0; a < 65536; a += 397 {
		for b := 0; b < 65536; b += 401 {
			f(uint16(a), uint16(b))
		}
	}
}

// inRange is n's word and TrapNone, if it is from low to high.
func inRange(n, low, high int64) (uint16, uint8) {
	if n < low || n > high {
		return 0, api.TrapOverflow
	}
	return uint16(n + 65536), api.TrapNone
}

// halves divides by counting up bits, so that it leans on no division: how often b is in a, and what is left.
func halves(a, b int64) (times, left int64) {
	for i := 16; i >= 0; i-- {
		if b<<i <= a {
			a -= b << i
			times += 1 << i
		}
	}
	return times, a
}

// division is how often b is in a, rounded towards 0, and what is left, which has a's sign.
func division(a, b int64) (times, left int64) {
	times, left = halves(max(a, -a), max(b, -b))
	if (a < 0) != (b < 0) {
		times = -times
	}
	if a < 0 {
		left = -left
	}
	return times, left
}

// numbers is what the number ops are to do, of numbers from low to high; the op is that of the kind with a sign.
func numbers(op uint8, a, b, low, high int64) (uint16, uint8) {
	switch op {
	case api.OpIAdd:
		return inRange(a+b, low, high)
	case api.OpISub:
		return inRange(a-b, low, high)
	case api.OpIMul:
		return inRange(a*b, low, high)
	case api.OpINeg:
		return inRange(-a, low, high)
	case api.OpIAbs:
		return inRange(max(a, -a), low, high)
	}
	if b == 0 {
		return 0, api.TrapZero
	}
	times, left := division(a, b)
	if op == api.OpIDiv {
		return inRange(times, low, high)
	}
	return inRange(left, low, high)
}

// P1.2: the number ops, held against numbers that have room.
func TestDoesNumbers(t *testing.T) {
	check := func(op uint8, a, b, want uint16, trap uint8) {
		if got, tr := Does(op, a, b); got != want || tr != trap {
			t.Fatalf("Does(%d, %d, %d): %d, trap %d; want %d, trap %d", op, a, b, got, tr, want, trap)
		}
	}
	pairs(func(a, b uint16) {
		for op := api.OpIAdd; op <= api.OpIAbs; op++ {
			w, trap := numbers(op, int64(signed(a)), int64(signed(b)), -32768, 32767)
			check(op, a, b, w, trap)
		}
		for i := range uint8(5) {
			w, trap := numbers(api.OpIAdd+i, int64(a), int64(b), 0, 65535)
			check(api.OpCAdd+i, a, b, w, trap)
		}
	})
}

// truths calls f with each question of two words, and whether it is so.
func truths(a, b uint16, f func(op uint8, is bool)) {
	x, y := signed(a), signed(b)
	f(api.OpEq, a == b)
	f(api.OpNe, a != b)
	f(api.OpILt, x < y)
	f(api.OpILe, x <= y)
	f(api.OpIGt, x > y)
	f(api.OpIGe, x >= y)
	f(api.OpCLt, a < b)
	f(api.OpCLe, a <= b)
	f(api.OpCGt, a > b)
	f(api.OpCGe, a >= b)
	f(api.OpNot, a == 0)
}

// P1.2: what is asked is answered by 1 and 0.
func TestDoesQuestions(t *testing.T) {
	pairs(func(a, b uint16) {
		truths(a, b, func(op uint8, is bool) {
			want := uint16(0)
			if is {
				want = 1
			}
			if got, trap := Does(op, a, b); got != want || trap != api.TrapNone {
				t.Fatalf("Does(%d, %d, %d): %d, trap %d; want %d", op, a, b, got, trap, want)
			}
		})
	})
}

// elements is a set as the numbers that it has.
func elements(s uint16) [16]bool {
	var l [16]bool
	for i := range l {
		l[i] = s%2 == 1
		s /= 2
	}
	return l
}

// P1.2, P1.4: the set ops, element by element.
func TestDoesSets(t *testing.T) {
	holds := map[uint8]func(a, b bool) bool{
		api.OpOr:   func(a, b bool) bool { return a || b },
		api.OpAndN: func(a, b bool) bool { return a && !b },
		api.OpAnd:  func(a, b bool) bool { return a && b },
		api.OpXor:  func(a, b bool) bool { return a != b },
	}
	pairs(func(a, b uint16) {
		x, y := elements(a), elements(b)
		part := uint16(1)
		for i := range 16 {
			if x[i] && !y[i] {
				part = 0
			}
		}
		if got, trap := Does(api.OpSub, a, b); got != part || trap != api.TrapNone {
			t.Fatalf("Does(OpSub, %d, %d): %d, trap %d", a, b, got, trap)
		}
		for op, f := range holds {
			s, trap := Does(op, a, b)
			z := elements(s)
			for i := range 16 {
				if z[i] != f(x[i], y[i]) || trap != api.TrapNone {
					t.Fatalf("Does(%d, %d, %d): %d, trap %d", op, a, b, s, trap)
				}
			}
		}
	})
}

// P1.2: elements are asked for one by one; a number that no set may have is in none.
func TestDoesIn(t *testing.T) {
	for _, s := range somewhere() {
		l := elements(s)
		words(func(w uint16) {
			want := uint16(0)
			if w < 16 && l[w] {
				want = 1
			}
			if got, trap := Does(api.OpIn, w, s); got != want || trap != api.TrapNone {
				t.Fatalf("Does(OpIn, %d, %d): %d, trap %d", w, s, got, trap)
			}
		})
	}
}

// P1.2: the sets of one, and of a row.
func TestDoesRow(t *testing.T) {
	pairs(func(a, b uint16) {
		s, trap := Does(api.OpRow, a, b)
		one, trapOne := Does(api.OpOne, a, b)
		if (trap == api.TrapRange) != (a > 15 || b > 15) || (trapOne == api.TrapRange) != (a > 15) {
			t.Fatalf("a row from %d to %d: trap %d, %d", a, b, trap, trapOne)
		}
		l, m := elements(s), elements(one)
		for i := range uint16(16) {
			if l[i] != (trap == api.TrapNone && i >= a && i <= b) || m[i] != (i == a) {
				t.Fatalf("a row from %d to %d: %d, %d", a, b, s, one)
			}
		}
	})
}

// P1.1, P1.2: an op that takes one word doesn't look at the other.
func TestDoesOneWord(t *testing.T) {
	pairs(func(a, b uint16) {
		for op := range uint8(32) {
			if Takes(op) != 1 {
				continue
			}
			w, trap := Does(op, a, b)
			if v, tr := Does(op, a, 0); v != w || tr != trap {
				t.Fatalf("Does(%d, %d, %d): %d, trap %d; with 0: %d, trap %d", op, a, b, w, trap, v, tr)
			}
		}
	})
}

// P1.2, R2: beside a trap the word is 0.
func TestDoesTrapped(t *testing.T) {
	pairs(func(a, b uint16) {
		for op := range uint8(40) {
			if w, trap := Does(op, a, b); trap != api.TrapNone && w != 0 {
				t.Fatalf("Does(%d, %d, %d): %d beside trap %d", op, a, b, w, trap)
			}
		}
	})
}

// does is what becomes of two words that make no trap.
func does(t *testing.T, op uint8, a, b uint16) uint16 {
	t.Helper()
	w, trap := Does(op, a, b)
	if trap != api.TrapNone {
		t.Fatalf("Does(%d, %d, %d): trap %d", op, a, b, trap)
	}
	return w
}

// P1.4: what is left of a division, and as many times what it was divided by, is what was divided.
func TestDivided(t *testing.T) {
	pairs(func(a, b uint16) {
		if b == 0 {
			return
		}
		times := does(t, api.OpCMul, does(t, api.OpCDiv, a, b), b)
		if got := does(t, api.OpCAdd, times, does(t, api.OpCMod, a, b)); got != a {
			t.Fatalf("%d by %d, without a sign: %d", a, b, got)
		}
		if a == 32768 && b == 65535 {
			return
		}
		times = does(t, api.OpIMul, does(t, api.OpIDiv, a, b), b)
		if got := does(t, api.OpIAdd, times, does(t, api.OpIMod, a, b)); got != a {
			t.Fatalf("%d by %d, with a sign: %d", a, b, got)
		}
	})
}

// P1.4: compares agree with differences.
func TestCompared(t *testing.T) {
	pairs(func(a, b uint16) {
		if d, trap := Does(api.OpISub, a, b); trap == api.TrapNone {
			for op := api.OpEq; op <= api.OpIGe; op++ {
				if does(t, op, a, b) != does(t, op, d, 0) {
					t.Fatalf("op %d of %d and %d, and of their difference", op, a, b)
				}
			}
		}
		d, trap := Does(api.OpCSub, a, b)
		if (trap == api.TrapOverflow) != (does(t, api.OpCLt, a, b) == 1) || (trap == api.TrapNone) != (does(t, api.OpCGe, a, b) == 1) {
			t.Fatalf("%d less %d: trap %d", a, b, trap)
		}
		if trap == api.TrapNone && (does(t, api.OpCGt, a, b) != does(t, api.OpNe, d, 0) || does(t, api.OpCLe, a, b) != does(t, api.OpNot, d, 0)) {
			t.Fatalf("%d less %d: %d", a, b, d)
		}
	})
}

// P1.4: sets are sets: what holds of all sets holds of these.
func TestSetsAreSets(t *testing.T) {
	pairs(func(a, b uint16) {
		both, less := does(t, api.OpAnd, a, b), does(t, api.OpAndN, a, b)
		if does(t, api.OpOr, both, less) != a || does(t, api.OpAnd, both, less) != 0 {
			t.Fatalf("%d is not what it has with %d, and without", a, b)
		}
		if does(t, api.OpXor, a, b) != does(t, api.OpOr, less, does(t, api.OpAndN, b, a)) {
			t.Fatalf("just one of %d and %d", a, b)
		}
		part := does(t, api.OpSub, a, b) == 1
		if part != (both == a) || part != (does(t, api.OpOr, a, b) == b) || part != (less == 0) {
			t.Fatalf("%d as a part of %d: %v", a, b, part)
		}
		sum := uint16(0)
		for i := range uint16(16) {
			if does(t, api.OpIn, i, a) == 1 {
				sum = does(t, api.OpOr, sum, does(t, api.OpOne, i, 0))
			}
		}
		if sum != a {
			t.Fatalf("all elements of %d are %d", a, sum)
		}
	})
}

// R6: an answer hangs on nothing but the arguments.
func TestDoesAgain(t *testing.T) {
	var first []uint16
	for round := range 2 {
		i := 0
		for n := range 256 {
			for _, a := range somewhere() {
				w, trap := Does(uint8(n), a, 3)
				if round == 0 {
					first = append(first, w, uint16(trap))
				} else if first[i] != w || first[i+1] != uint16(trap) {
					t.Fatalf("Does(%d, %d, 3): another answer", n, a)
				}
				i += 2
			}
		}
	}
}
