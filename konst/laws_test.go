package konst_test

import (
	"testing"

	"separatum/api"
	"separatum/konst"
)

// opposites are the questions of which just one is answered by TRUE; swapped, those that are the same from the other side.
func opposites() [][2]string { return [][2]string{{"=", "#"}, {"<", ">="}, {">", "<="}} }

func swapped() [][2]string {
	return [][2]string{{"=", "="}, {"#", "#"}, {"<", ">"}, {">", "<"}, {"<=", ">="}, {">=", "<="}}
}

// of is what Does answers, of what it must do.
func of(t *testing.T, op string, a, b any) any {
	t.Helper()
	v, e := konst.Does(op, a, b)
	if e != api.OK || !konst.Is(v) {
		t.Fatalf("%T %v %s %T %v: %v, %d", a, a, op, b, b, v, e)
	}
	return v
}

func TestOneWayAbout(t *testing.T) {
	for _, a := range values() {
		for _, b := range values() {
			for _, q := range opposites() {
				v, e := konst.Does(q[0], a.v, b.v)
				w, f := konst.Does(q[1], a.v, b.v)
				if a.sort == "Bits" && b.sort == "Bits" && q[0] != "=" {
					continue // of two sets none may be a part of the other
				}
				no, _ := konst.One("NOT", v)
				if e != f || e == api.OK && no != w {
					t.Fatalf("%T %v, %T %v: %s %v, %d; %s %v, %d", a.v, a.v, b.v, b.v, q[0], v, e, q[1], w, f)
				}
			}
			for _, q := range swapped() {
				v, e := konst.Does(q[0], a.v, b.v)
				w, f := konst.Does(q[1], b.v, a.v)
				if v != w || e != f {
					t.Fatalf("%T %v %s %T %v: %v, %d; the other way %v, %d", a.v, a.v, q[0], b.v, b.v, v, e, w, f)
				}
			}
		}
	}
}

// Two that are the same are equal, and neither is below the other, wherever this may be asked.
func TestSameIsEqual(t *testing.T) {
	for _, a := range values() {
		for _, b := range values() {
			v, e := konst.Does("=", a.v, b.v)
			if e == api.OK && a.sort == b.sort && v != api.Truth(konst.Same(a.v, b.v)) {
				t.Errorf("%T %v = %T %v: %v", a.v, a.v, b.v, b.v, v)
			}
		}
	}
}

func TestSumsLeadBack(t *testing.T) {
	taken, refused := 0, 0
	for a := api.Whole(-32768); a <= 65535; a += 1009 {
		for b := api.Whole(-32768); b <= 65535; b += 997 {
			if sum, e := konst.Does("+", a, b); e == api.OK {
				taken++
				if of(t, "-", sum, b) != a || of(t, "-", sum, a) != b || of(t, "+", b, a) != sum {
					t.Errorf("%d + %d: %v", a, b, sum)
				}
			} else {
				refused++
			}
			if less, e := konst.Does("-", a, b); e == api.OK {
				if of(t, "+", less, b) != a || of(t, "+", b, less) != a {
					t.Errorf("%d - %d: %v", a, b, less)
				}
			}
		}
	}
	if taken == 0 || refused == 0 {
		t.Errorf("%d sums, %d refused", taken, refused)
	}
}

func TestQuotientsLeadBack(t *testing.T) {
	for a := api.Whole(-32768); a <= 65535; a += 509 {
		for b := api.Whole(-300); b <= 300; b += 7 { // neither 0 nor -1 is among them
			q := of(t, "DIV", a, b)
			if of(t, "+", of(t, "*", q, b), of(t, "MOD", a, b)) != a {
				t.Errorf("%d DIV %d: %v", a, b, q)
			}
		}
	}
}

func TestOppositesLeadBack(t *testing.T) {
	for n := api.Whole(-32768); n <= 32768; n++ {
		v, e := konst.One("-", n)
		w, f := konst.One("-", v)
		if e != api.OK || f != api.OK || w != n || of(t, "+", n, v) != api.Whole(0) {
			t.Fatalf("the opposite of %d: %v, %d; of that %v, %d", n, v, e, w, f)
		}
	}
}

// A set that is put together, element by element, has them and no other; what is taken out is gone; what is told apart comes back.
func TestSetsAreWhatTheyWereOf(t *testing.T) {
	for w := 0; w < 1<<16; w += 7 {
		var put, left any = api.Bits(0), api.Bits(0xFFFF)
		for n, has := range elements(uint16(w)) {
			if has {
				put = of(t, "+", put, api.Bits(1<<n))
				left = of(t, "-", left, api.Bits(1<<n))
			}
		}
		for n, has := range elements(uint16(w)) {
			if of(t, "IN", api.Whole(n), put) != api.Truth(has) || of(t, "IN", api.Whole(n), left) == api.Truth(has) {
				t.Fatalf("%d IN the set of %#x: wrong", n, w)
			}
		}
		all := of(t, "+", put, left)
		if put != api.Bits(w) || all != api.Bits(0xFFFF) || of(t, "*", put, left) != api.Bits(0) {
			t.Fatalf("the set of %#x is %v, the rest %v", w, put, left)
		}
	}
	for a := 1; a < 1<<16; a += 331 {
		for b := 0; b < 1<<16; b += 337 {
			x, y := api.Bits(a), api.Bits(b)
			both, less := of(t, "*", x, y), of(t, "-", x, y)
			if of(t, "+", both, less) != x || of(t, "/", of(t, "/", x, y), y) != x {
				t.Fatalf("%#x, %#x: both %v, less %v", a, b, both, less)
			}
			if of(t, "<=", both, x) != api.Truth(true) || of(t, ">=", x, less) != api.Truth(true) {
				t.Fatalf("%#x, %#x: no parts of it: %v, %v", a, b, both, less)
			}
		}
	}
}
