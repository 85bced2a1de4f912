package place

import (
	"math"
	"strconv"
	"strings"
	"testing"
)

const end = 1 << 30

// strangers is numbers that are no place.
func strangers() []complex128 {
	nan, inf := math.NaN(), math.Inf(1)
	return []complex128{
		0, 1, 1i, -1 - 1i, 1 - 1i, -1 + 1i, 0.5 + 1i, 1 + 0.5i, 1.5 + 1i, 1 + 1.5i, 0.999 + 1i, 1 + 0.999i,
		complex(end+1, 1), complex(1, end+1), complex(end+0.5, 1), complex(1, end+0.5), complex(1e300, 1), complex(1, 1e300),
		complex(nan, 1), complex(1, nan), complex(nan, nan), complex(inf, 1), complex(1, inf), complex(-inf, 1), complex(1, -inf), complex(inf, nan),
		complex(1<<63, 1), complex(1, 1<<64), complex(math.Copysign(0, -1), 1),
	}
}

// places is places at the edges, and near the beginning.
func places() []complex128 {
	var l []complex128
	for _, line := range []float64{1, 2, 3, 9, 10, 11, end - 1, end} {
		for _, column := range []float64{1, 2, 3, 9, 10, 11, end - 1, end} {
			l = append(l, complex(line, column))
		}
	}
	return l
}

// counted is the place behind s by lines that are split, not gone through; it holds where no line nor column is too far.
func counted(line, column int, s string) complex128 {
	rows := strings.Split(s, "\n")
	last := len(rows[len(rows)-1])
	if len(rows) == 1 {
		return complex(float64(line), float64(column+last))
	}
	return complex(float64(line+len(rows)-1), float64(1+last))
}

// sources calls f with every text of up to n of some bytes.
func sources(n int, f func(s string)) {
	var more func(s string)
	more = func(s string) {
		f(s)
		if len(s) == n {
			return
		}
		for _, b := range []byte{'\n', 'a', '\r', 200} {
			more(s + string([]byte{b}))
		}
	}
	more("")
}

// P3.1
func TestParts(t *testing.T) {
	if got := Begin(); got != 1+1i {
		t.Errorf("Begin: %v", got)
	}
	for _, p := range places() {
		line, column := int(real(p)), int(imag(p))
		if got := Of(line, column); got != p {
			t.Errorf("Of(%d, %d): %v", line, column, got)
		}
		if Line(p) != line || Column(p) != column {
			t.Errorf("%v: %d, %d", p, Line(p), Column(p))
		}
	}
	for _, p := range strangers() {
		if Line(p) != 0 || Column(p) != 0 {
			t.Errorf("%v: %d, %d", p, Line(p), Column(p))
		}
	}
}

// P3.1
func TestOfNone(t *testing.T) {
	for _, x := range []int{0, -1, -end, math.MinInt, end + 1, end + 2, 1 << 31, 1<<32 + 1, 1 << 53, math.MaxInt} {
		for _, y := range []int{1, 2, end, x} {
			if Of(x, y) != 0 || Of(y, x) != 0 {
				t.Errorf("Of(%d, %d): %v, turned: %v", x, y, Of(x, y), Of(y, x))
			}
		}
	}
}

// P3.1
func TestBehind(t *testing.T) {
	for _, x := range []struct {
		p    complex128
		s    string
		want complex128
	}{
		{1 + 1i, "ab\nc", 2 + 2i}, {1 + 1i, "", 1 + 1i}, {1 + 1i, "\n", 2 + 1i}, {1 + 1i, "\n\n", 3 + 1i}, {3 + 7i, "abc", 3 + 10i}, {3 + 7i, "a\n", 4 + 1i},
		{1 + 1i, "é", 1 + 3i}, {1 + 1i, "\r\n", 2 + 1i}, {1 + 1i, "\r", 1 + 2i}, {1 + 1i, "\t\x00\xff", 1 + 4i}, {1 + 1i, "\u2028", 1 + 4i},
		{complex(1, end), "", complex(1, end)}, {complex(1, end), "\n", 2 + 1i}, {complex(1, end), "a", 0}, {complex(1, end), "a\n", 0}, {complex(1, end), "a\nb", 0},
		{complex(1, end-1), "a", complex(1, end)}, {complex(1, end-1), "a\n", 2 + 1i}, {complex(1, end-1), "ab", 0},
		{complex(end, 1), "a", complex(end, 2)}, {complex(end, 1), "\n", 0}, {complex(end, 1), "\na", 0}, {complex(end-1, 5), "\n", complex(end, 1)}, {complex(end-1, 5), "\n\n", 0},
		{complex(end, end), "", complex(end, end)}, {complex(end, end), "a", 0}, {complex(end, end), "\n", 0},
	} {
		if got := Behind(x.p, x.s); got != x.want {
			t.Errorf("Behind(%v, %q): %v, want %v", x.p, x.s, got, x.want)
		}
	}
	for _, p := range strangers() {
		for _, s := range []string{"", "a", "\n", "a\nb"} {
			if got := Behind(p, s); got != 0 {
				t.Errorf("Behind(%v, %q): %v", p, s, got)
			}
		}
	}
}

// P3.1
func TestBehindAll(t *testing.T) {
	sources(5, func(s string) {
		for _, x := range [][2]int{{1, 1}, {1, 9}, {7, 1}, {12, 34}} {
			if got, want := Behind(Of(x[0], x[1]), s), counted(x[0], x[1], s); got != want {
				t.Fatalf("Behind(%v, %q): %v, want %v", x, s, got, want)
			}
		}
	})
}

// P3.1
func TestBefore(t *testing.T) {
	for _, x := range []struct {
		a, b complex128
		want bool
	}{
		{1 + 1i, 1 + 2i, true}, {1 + 2i, 1 + 1i, false}, {1 + 1i, 1 + 1i, false}, {1 + 9i, 2 + 1i, true}, {2 + 1i, 1 + 9i, false}, {2 + 1i, 10 + 1i, true},
	} {
		if got := Before(x.a, x.b); got != x.want {
			t.Errorf("Before(%v, %v): %v", x.a, x.b, got)
		}
	}
	l := places() // rising
	for i, a := range l {
		for j, b := range l {
			if got := Before(a, b); got != (i < j) {
				t.Errorf("Before(%v, %v): %v", a, b, got)
			}
		}
		for _, b := range strangers() {
			if Before(a, b) || Before(b, a) {
				t.Errorf("%v and %v: one is before the other", a, b)
			}
		}
	}
	for _, a := range strangers() {
		for _, b := range strangers() {
			if Before(a, b) {
				t.Errorf("Before(%v, %v)", a, b)
			}
		}
	}
}

// P3.2
func TestIn(t *testing.T) {
	for _, x := range []struct {
		s    string
		p    complex128
		n    int
		want bool
	}{
		{"", 1 + 1i, 0, true}, {"", 1 + 2i, 0, false}, {"", 2 + 1i, 0, false}, {"ab\nc", 1 + 1i, 0, true}, {"ab\nc", 1 + 3i, 2, true}, {"ab\nc", 1 + 4i, 0, false},
		{"ab\nc", 2 + 1i, 3, true}, {"ab\nc", 2 + 2i, 4, true}, {"ab\nc", 2 + 3i, 0, false}, {"ab\nc", 3 + 1i, 0, false}, {"\n", 2 + 1i, 1, true}, {"\n", 1 + 1i, 0, true},
		{"\n", 1 + 2i, 0, false}, {"\n", 2 + 2i, 0, false}, {"a", complex(end, end), 0, false}, {"é", 1 + 2i, 1, true}, {"\n\na", 3 + 1i, 2, true},
	} {
		if n, ok := In(x.s, x.p); n != x.n || ok != x.want {
			t.Errorf("In(%q, %v): %d, %v", x.s, x.p, n, ok)
		}
	}
	for _, p := range strangers() {
		for _, s := range []string{"", "a", "\n", "ab\ncd\n"} {
			if n, ok := In(s, p); n != 0 || ok {
				t.Errorf("In(%q, %v): %d, %v", s, p, n, ok)
			}
		}
	}
}

// P3.2: every place near a source, whether a byte stands there or not.
func TestInAll(t *testing.T) {
	sources(4, func(s string) {
		for line := 1; line <= 6; line++ {
			for column := 1; column <= 6; column++ {
				n, found := 0, false
				for i := range len(s) + 1 {
					if counted(1, 1, s[:i]) == complex(float64(line), float64(column)) {
						n, found = i, true
					}
				}
				if got, ok := In(s, Of(line, column)); got != n || ok != found {
					t.Fatalf("In(%q, %d:%d): %d, %v, want %d, %v", s, line, column, got, ok, n, found)
				}
			}
		}
	})
}

// P3.2
func TestText(t *testing.T) {
	for _, x := range []struct {
		p    complex128
		want string
	}{
		{1 + 1i, "1:1"}, {2 + 2i, "2:2"}, {10 + 205i, "10:205"}, {complex(end, end), "1073741824:1073741824"}, {complex(1, end-1), "1:1073741823"}, {0, ""},
	} {
		if got := Text(x.p); got != x.want {
			t.Errorf("Text(%v): %q", x.p, got)
		}
	}
	for _, p := range strangers() {
		if got := Text(p); got != "" {
			t.Errorf("Text(%v): %q", p, got)
		}
	}
}

// P3.2: what is read is what is told, and nothing else is read.
func TestRead(t *testing.T) {
	for _, p := range places() {
		s := strconv.Itoa(int(real(p))) + ":" + strconv.Itoa(int(imag(p)))
		if got, ok := Read(s); got != p || !ok {
			t.Errorf("Read(%q): %v, %v", s, got, ok)
		}
		if got := Text(p); got != s {
			t.Errorf("Text(%v): %q", p, got)
		}
	}
	for _, s := range []string{
		"", ":", "1", "1:", ":1", "0:1", "1:0", "0:0", "01:1", "1:01", "+1:1", "1:+1", "-1:1", "1:-1", " 1:1", "1:1 ", "1 :1", "1: 1", "1::1", ":1:1", "1:1:", "1:1:1",
		"1.0:1", "1:1.5", "1e1:1", "0x1:1", "1_0:1", "a:1", "1:a", "1;1", "1:1\n", "1:1\x00", "1073741825:1", "1:1073741825", "4294967297:1", "1:4294967297",
		"18446744073709551617:1", "1:18446744073709551617", "9223372036854775807:1", "99999999999999999999999:1", "(1+1i)", "١:1", "1:", "-0:1", "1:" + strings.Repeat("0", 400) + "1",
	} {
		if got, ok := Read(s); got != 0 || ok {
			t.Errorf("Read(%q): %v, %v", s, got, ok)
		}
	}
}

// P3.3: two texts, one behind the other, are as both together, and where they fail they both do.
func TestBehindTwo(t *testing.T) {
	first := []complex128{1 + 1i, 4 + 3i, complex(1, end-2), complex(end-2, 1), complex(end, end-1), complex(end-1, end), 0}
	sources(5, func(s string) {
		for _, p := range first {
			for i := range len(s) + 1 {
				if one, two := Behind(p, s), Behind(Behind(p, s[:i]), s[i:]); one != two {
					t.Fatalf("Behind(%v, %q): %v, in two at %d: %v", p, s, one, i, two)
				}
			}
		}
	})
}

// P3.3: places rise with the bytes ahead of them, and lead back to these.
func TestRise(t *testing.T) {
	long := strings.Repeat("MODULE x;\r\n\n  (* é *)\n", 40) + strings.Repeat("y", 300)
	check := func(s string) {
		for i := range len(s) + 1 {
			p := Behind(Begin(), s[:i])
			if n, ok := In(s, p); n != i || !ok {
				t.Fatalf("In(%q, %v): %d, %v, want %d", s, p, n, ok, i)
			}
			if i > 0 && !Before(Behind(Begin(), s[:i-1]), p) {
				t.Fatalf("%q: byte %d does not stand behind the one ahead of it", s, i)
			}
		}
	}
	check(long)
	sources(5, check)
}
