package word

import (
	"math"
	"strconv"
	"testing"
)

// words calls f with every word there is.
func words(f func(w uint16)) {
	for n := range 1 << 16 {
		f(uint16(n))
	}
}

// signed is w with its sign, as the chapter says it: less 65,536, if it is 32,768 or more.
func signed(w uint16) int {
	if w >= 32768 {
		return int(w) - 65536
	}
	return int(w)
}

// P1.1
func TestInt(t *testing.T) {
	for _, x := range []struct {
		w    uint16
		want int
	}{{0, 0}, {1, 1}, {32767, 32767}, {32768, -32768}, {32769, -32767}, {65529, -7}, {65535, -1}} {
		if got := Int(x.w); got != x.want {
			t.Errorf("Int(%d): %d, want %d", x.w, got, x.want)
		}
	}
	words(func(w uint16) {
		if Int(w) != signed(w) {
			t.Fatalf("Int(%d): %d", w, Int(w))
		}
	})
}

// P1.1
func TestOf(t *testing.T) {
	for _, x := range []struct {
		n    int
		want uint16
		is   bool
	}{
		{0, 0, true}, {1, 1, true}, {-1, 65535, true}, {-7, 65529, true},
		{32767, 32767, true}, {32768, 32768, true}, {65535, 65535, true}, {65536, 0, false}, {65537, 0, false},
		{-32767, 32769, true}, {-32768, 32768, true}, {-32769, 0, false}, {-65536, 0, false}, {-65535, 0, false},
		{131072, 0, false}, {1<<32 + 5, 0, false}, {-1<<32 + 5, 0, false}, {math.MaxInt, 0, false}, {math.MinInt, 0, false},
	} {
		if w, is := Of(x.n); w != x.want || is != x.is {
			t.Errorf("Of(%d): %d %v, want %d %v", x.n, w, is, x.want, x.is)
		}
	}
	for n := -70000; n <= 140000; n++ {
		w, is := Of(n)
		if is != (n >= -32768 && n <= 65535) {
			t.Fatalf("Of(%d): %v", n, is)
		}
		if is && int(w) != n && signed(w) != n || !is && w != 0 {
			t.Fatalf("Of(%d): %d", n, w)
		}
	}
	words(func(w uint16) {
		if got, is := Of(Int(w)); got != w || !is {
			t.Fatalf("Of(Int(%d)): %d %v", w, got, is)
		}
		if got, is := Of(int(w)); got != w || !is {
			t.Fatalf("Of(%d): %d %v", w, got, is)
		}
	})
}

// somewhere are words at the edges: of both kinds of numbers, of sets, of products; and some between.
func somewhere() []uint16 {
	l := []uint16{0, 1, 2, 3, 7, 10, 14, 15, 16, 17, 28, 31, 32, 100, 127, 128, 180, 181, 182, 254, 255, 256, 257, 1000, 4095, 4096, 12345, 16383, 16384, 16385, 21845, 32766, 32767}
	for _, w := range l {
		l = append(l, ^w)
	}
	return append(l, 32770, 43690, 49151, 49152, 49153, 60000)
}

// P1.3
func TestWithin(t *testing.T) {
	for _, x := range []struct {
		signed       bool
		w, low, high uint16
		want         bool
	}{
		{false, 5, 5, 5, true}, {true, 5, 5, 5, true},
		{false, 5, 6, 4, false}, {true, 5, 6, 4, false}, {false, 4, 6, 4, false}, {true, 6, 6, 4, false},
		{true, 65535, 65534, 1, true}, {false, 65535, 65534, 1, false},
		{true, 0, 65535, 1, true}, {false, 0, 65535, 1, false},
		{true, 32768, 32768, 32767, true}, {false, 32768, 32768, 32767, false},
		{true, 32768, 0, 65535, false}, {false, 32768, 0, 65535, true},
		{false, 65535, 0, 65535, true}, {false, 0, 0, 65535, true}, {false, 3, 4, 9, false}, {false, 10, 4, 9, false},
	} {
		if got := Within(x.signed, x.w, x.low, x.high); got != x.want {
			t.Errorf("Within(%v, %d, %d, %d): %v", x.signed, x.w, x.low, x.high, got)
		}
	}
	l := somewhere()
	for _, w := range l {
		for _, low := range l {
			for _, high := range l {
				if got := Within(false, w, low, high); got != (w >= low && w <= high) {
					t.Fatalf("Within(false, %d, %d, %d): %v", w, low, high, got)
				}
				if got := Within(true, w, low, high); got != (signed(w) >= signed(low) && signed(w) <= signed(high)) {
					t.Fatalf("Within(true, %d, %d, %d): %v", w, low, high, got)
				}
			}
		}
	}
}

// P1.3
func TestText(t *testing.T) {
	for _, x := range []struct {
		signed bool
		w      uint16
		want   string
	}{
		{false, 0, "0"}, {true, 0, "0"}, {false, 7, "7"}, {true, 10, "10"}, {false, 100, "100"},
		{true, 32767, "32767"}, {true, 32768, "-32768"}, {false, 32768, "32768"},
		{true, 65535, "-1"}, {false, 65535, "65535"}, {true, 65526, "-10"},
	} {
		if got := Text(x.signed, x.w); got != x.want {
			t.Errorf("Text(%v, %d): %q, want %q", x.signed, x.w, got, x.want)
		}
	}
	words(func(w uint16) {
		if got, want := Text(false, w), strconv.FormatUint(uint64(w), 10); got != want {
			t.Fatalf("Text(false, %d): %q", w, got)
		}
		if got, want := Text(true, w), strconv.FormatInt(int64(signed(w)), 10); got != want {
			t.Fatalf("Text(true, %d): %q", w, got)
		}
	})
}
