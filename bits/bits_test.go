package bits

import (
	"math"
	"slices"
	"testing"
)

// chosen is whether i is to be an element, by halving alone, so that it leans on no shift.
func chosen(s uint16, i int) bool {
	if i < 0 || i > 15 {
		return false
	}
	for range i {
		s /= 2
	}
	return s%2 == 1
}

// made is the set of those that f tells, by sums alone.
func made(f func(i int) bool) uint16 {
	var s, power uint16 = 0, 1
	for i := range 16 {
		if f(i) {
			s += power
		}
		power *= 2
	}
	return s
}

// sets calls f with every set.
func sets(f func(s uint16)) {
	for n := range 65536 {
		f(uint16(n))
	}
}

// numbers is elements, and what is none: near, a turn of 16, 32, 64, 256 and 65536 away, and as far as it goes.
func numbers() []int {
	l := []int{math.MinInt, math.MinInt + 1, math.MinInt32, -65536, -65535, -256, math.MaxInt16, 255, 256, 257, 65535, 65536, 65551, 1 << 32, 1<<32 + 3, math.MaxInt - 1, math.MaxInt}
	for i := -66; i <= 80; i++ {
		l = append(l, i)
	}
	return l
}

// some is sets at the edges, and others all over.
func some() []uint16 {
	l := []uint16{0, 1, 2, 3, 28, 255, 256, 32767, 32768, 32769, 65280, 65534, 65535}
	for n := 0; n < 65536; n += 509 {
		l = append(l, uint16(n))
	}
	return l
}

// P2.1
func TestHas(t *testing.T) {
	for _, x := range []struct {
		s    uint16
		i    int
		want bool
	}{
		{28, 1, false}, {28, 2, true}, {28, 4, true}, {28, 5, false}, {1, 0, true}, {0, 0, false},
		{32768, 15, true}, {32767, 15, false}, {65535, 16, false}, {65535, -1, false}, {65535, 32, false},
		{65535, 64, false}, {65535, math.MinInt, false}, {65535, math.MaxInt, false},
	} {
		if got := Has(x.s, x.i); got != x.want {
			t.Errorf("Has(%d, %d): %v", x.s, x.i, got)
		}
	}
	l := numbers()
	sets(func(s uint16) {
		for _, i := range l {
			if got := Has(s, i); got != chosen(s, i) {
				t.Fatalf("Has(%d, %d): %v", s, i, got)
			}
		}
	})
}

// P2.1
func TestWith(t *testing.T) {
	for _, x := range []struct {
		s       uint16
		l       []int
		with    uint16
		without uint16
	}{
		{0, []int{15, 16}, 32768, 0}, {28, nil, 28, 28}, {28, []int{}, 28, 28}, {28, []int{3}, 28, 20}, {28, []int{0}, 29, 28},
		{28, []int{4, 0, 4, 0, 2}, 29, 8}, {65535, []int{0, 15}, 65535, 32766}, {0, []int{0, 15}, 32769, 0},
		{7, []int{-1, 16, 17, 32, 64, -16, math.MinInt, math.MaxInt}, 7, 7}, {7, []int{-1, 1, 16, 3}, 15, 5},
		{0, []int{0, 1, 2, 3, 4, 5, 6, 7, 8, 9, 10, 11, 12, 13, 14, 15}, 65535, 0}, {65535, []int{15, 14, 13, 12, 11, 10, 9, 8, 7, 6, 5, 4, 3, 2, 1, 0}, 65535, 0},
	} {
		kept := slices.Clone(x.l)
		if got := With(x.s, x.l...); got != x.with {
			t.Errorf("With(%d, %v): %d, want %d", x.s, x.l, got, x.with)
		}
		if got := Without(x.s, x.l...); got != x.without {
			t.Errorf("Without(%d, %v): %d, want %d", x.s, x.l, got, x.without)
		}
		if !slices.Equal(kept, x.l) {
			t.Errorf("%v became %v", kept, x.l)
		}
	}
	if got := With(5); got != 5 {
		t.Errorf("With(5): %d", got)
	}
	if got := Without(5); got != 5 {
		t.Errorf("Without(5): %d", got)
	}
}

// P2.1, P2.2: what is put in is in, what is taken out is not, and nothing else is another one.
func TestWithOne(t *testing.T) {
	l := numbers()
	for _, s := range some() {
		for _, i := range l {
			with := made(func(j int) bool { return j == i || chosen(s, j) })
			without := made(func(j int) bool { return j != i && chosen(s, j) })
			if got := With(s, i); got != with {
				t.Fatalf("With(%d, %d): %d, want %d", s, i, got, with)
			}
			if got := Without(s, i); got != without {
				t.Fatalf("Without(%d, %d): %d, want %d", s, i, got, without)
			}
		}
	}
}

// P2.1, P2.2: of several numbers at once.
func TestWithMany(t *testing.T) {
	for _, s := range some() {
		for _, u := range some() {
			var l []int
			for i := 20; i >= -20; i-- {
				if chosen(u, (i+32)%16) { // those below 0 and above 15 do nothing
					l = append(l, i)
				}
			}
			with := made(func(j int) bool { return chosen(s, j) || chosen(u, j) })
			without := made(func(j int) bool { return chosen(s, j) && !chosen(u, j) })
			if got := With(s, l...); got != with {
				t.Fatalf("With(%d, %v): %d, want %d", s, l, got, with)
			}
			if got := Without(s, l...); got != without {
				t.Fatalf("Without(%d, %v): %d, want %d", s, l, got, without)
			}
		}
	}
}

// P2.1
func TestRow(t *testing.T) {
	for _, x := range []struct {
		low, high int
		want      uint16
	}{
		{2, 4, 28}, {0, 15, 65535}, {0, 0, 1}, {15, 15, 32768}, {4, 2, 0}, {15, 0, 0}, {-3, 2, 7}, {14, 20, 49152}, {-1, 16, 65535},
		{-5, -1, 0}, {16, 20, 0}, {16, 16, 0}, {-1, -1, 0}, {-1, 0, 1}, {15, 16, 32768},
		{math.MinInt, math.MaxInt, 65535}, {math.MaxInt, math.MinInt, 0}, {math.MinInt, 0, 1}, {15, math.MaxInt, 32768},
		{math.MaxInt, math.MaxInt, 0}, {math.MinInt, math.MinInt, 0},
	} {
		if got := Row(x.low, x.high); got != x.want {
			t.Errorf("Row(%d, %d): %d, want %d", x.low, x.high, got, x.want)
		}
	}
	for _, low := range numbers() {
		for _, high := range numbers() {
			want := made(func(i int) bool { return i >= low && i <= high })
			if got := Row(low, high); got != want {
				t.Fatalf("Row(%d, %d): %d, want %d", low, high, got, want)
			}
		}
	}
}

// P2.1
func TestAll(t *testing.T) {
	for _, x := range []struct {
		s    uint16
		want []int
	}{
		{0, nil}, {28, []int{2, 3, 4}}, {1, []int{0}}, {32768, []int{15}}, {32769, []int{0, 15}},
		{65535, []int{0, 1, 2, 3, 4, 5, 6, 7, 8, 9, 10, 11, 12, 13, 14, 15}},
	} {
		if got := All(x.s); !slices.Equal(got, x.want) {
			t.Errorf("All(%d): %v, want %v", x.s, got, x.want)
		}
		if got := Len(x.s); got != len(x.want) {
			t.Errorf("Len(%d): %d, want %d", x.s, got, len(x.want))
		}
	}
	sets(func(s uint16) {
		var want []int
		for i := range 16 {
			if chosen(s, i) {
				want = append(want, i)
			}
		}
		if got := All(s); !slices.Equal(got, want) {
			t.Fatalf("All(%d): %v, want %v", s, got, want)
		}
		if got := Len(s); got != len(want) {
			t.Fatalf("Len(%d): %d, want %d", s, got, len(want))
		}
	})
}

// P2.1, and rule R5: each answer is a list of its own.
func TestAllNew(t *testing.T) {
	a, b := All(28), All(28)
	a[0] = 9
	a = append(a, 7)
	if !slices.Equal(b, []int{2, 3, 4}) || !slices.Equal(All(28), []int{2, 3, 4}) {
		t.Errorf("%v was changed beside %v", b, a)
	}
}

// P2.1
func TestPart(t *testing.T) {
	for _, x := range []struct {
		s, t uint16
		want bool
	}{
		{0, 0, true}, {0, 65535, true}, {65535, 0, false}, {8, 12, true}, {12, 8, false}, {12, 12, true}, {12, 10, false},
		{32768, 32767, false}, {32767, 32768, false}, {32768, 65535, true}, {65535, 65535, true}, {65535, 65534, false}, {1, 65534, false},
	} {
		if got := Part(x.s, x.t); got != x.want {
			t.Errorf("Part(%d, %d): %v", x.s, x.t, got)
		}
	}
	for _, s := range some() {
		for _, u := range some() {
			want := made(func(i int) bool { return chosen(s, i) && !chosen(u, i) }) == 0
			if got := Part(s, u); got != want {
				t.Fatalf("Part(%d, %d): %v", s, u, got)
			}
		}
	}
}

// P2.2: a set is all its elements, whichever way it is put together or taken apart.
func TestElements(t *testing.T) {
	sets(func(s uint16) {
		l := All(s)
		if got := With(0, l...); got != s {
			t.Fatalf("With(0, %v): %d, want %d", l, got, s)
		}
		if got := Without(s, l...); got != 0 {
			t.Fatalf("Without(%d, %v): %d", s, l, got)
		}
		if got := Without(65535, l...); got != 65535-s {
			t.Fatalf("Without(65535, %v): %d, want %d", l, got, 65535-s)
		}
		rows := uint16(0)
		for _, i := range l {
			rows += Row(i, i)
		}
		if rows != s {
			t.Fatalf("rows of %v: %d, want %d", l, rows, s)
		}
	})
}

// P2.2: parts have no element that the whole lacks; with more it is the whole's part no longer.
func TestWhole(t *testing.T) {
	for _, s := range some() {
		for i := range 16 {
			if !Part(s, With(s, i)) || !Part(Without(s, i), s) {
				t.Fatalf("of %d, %d: no part", s, i)
			}
			if Part(With(s, i), s) != Has(s, i) || Part(s, Without(s, i)) == Has(s, i) {
				t.Fatalf("of %d, %d: parts and elements disagree", s, i)
			}
			if len(All(With(s, i))) != Len(Without(s, i))+1 {
				t.Fatalf("of %d, %d: more or less than one between with and without", s, i)
			}
		}
	}
}
