package konst_test

import (
	"fmt"
	"math"
	"runtime"
	"testing"

	"separatum/api"
	"separatum/konst"
)

// known is a value, with what the chapter tells of it.
type known struct {
	v      any
	sort   string
	number int64
	has    bool // whether it has a number
	word   uint16
	is     bool // whether it is a word
}

// values are some of each sort, no two of them the same; those at the edges among them.
func values() []known {
	l := []known{
		{api.Truth(false), "Truth", 0, true, 0, true},
		{api.Truth(true), "Truth", 1, true, 1, true},
		{api.Null{}, "Null", 0, false, 0, true},

		{api.Item{Type: 10, N: 0}, "Item 10", 0, true, 0, true},
		{api.Item{Type: 10, N: 1}, "Item 10", 1, true, 1, true},
		{api.Item{Type: 10, N: 15}, "Item 10", 15, true, 15, true},
		{api.Item{Type: 10, N: 16}, "Item 10", 16, true, 16, true},
		{api.Item{Type: 11, N: 0}, "Item 11", 0, true, 0, true},
		{api.Item{Type: 11, N: 1}, "Item 11", 1, true, 1, true},
		{api.Item{Type: 11, N: -1}, "Item 11", -1, true, 65535, true},
		{api.Item{Type: 11, N: 65535}, "Item 11", 65535, true, 65535, true},
		{api.Item{Type: 11, N: 65536}, "Item 11", 65536, true, 0, true},
		{api.Item{Type: 500, N: 1<<40 + 7}, "Item 500", 1<<40 + 7, true, 7, true},
		{api.Item{Type: 500, N: -(1 << 40) + 7}, "Item 500", -(1 << 40) + 7, true, 7, true},

		{api.String(""), "String", 0, false, 0, false},
		{api.String("ab"), "String", 0, false, 0, false},
		{api.String("ba"), "String", 0, false, 0, false},
		{api.String("\x00\x00"), "String", 0, false, 0, false},
		{api.String("\u00e9"), "String", 0, false, 0, false}, // two bytes
		{api.String("12"), "String", 0, false, 0, false},
		{api.String("TRUE"), "String", 0, false, 0, false},
	}
	for _, n := range []int64{0, 1, 2, 7, 14, 15, 16, 97, 255, 256, 32767, 32768, 65534, 65535} {
		l = append(l, known{api.Whole(n), "Whole", n, true, uint16(n), true})
	}
	for _, n := range []int64{-1, -2, -7, -16, -32767, -32768} {
		l = append(l, known{api.Whole(n), "Whole", n, true, uint16(65536 + n), true})
	}
	for _, n := range []int64{0, 1, 15, 16, 32, 97, 127, 128, 254, 255} {
		l = append(l, known{api.Letter(n), "Letter", n, true, uint16(n), true})
		l = append(l, known{api.String([]byte{byte(n)}), "String", n, true, uint16(n), true})
	}
	for _, w := range []uint16{0, 1, 2, 3, 6, 15, 97, 255, 0x5555, 0x7FFF, 0x8000, 0xAAAA, 0xFFFF} {
		l = append(l, known{api.Bits(w), "Bits", 0, false, w, true})
	}
	return l
}

type myWhole api.Whole

type inside struct{ api.Whole }

// nones are no values, some of a kind that can't be held against another.
func nones() []any {
	whole, letter, item, null := api.Whole(1), api.Letter('a'), api.Item{Type: 10}, api.Null{}
	return []any{
		nil, 0, 1, -1, int64(1), uint16(1), uint8(1), int32('a'), 1.0, 1i, "a", "", "ab", true, false,
		api.Whole(-32769), api.Whole(65536), api.Whole(70000), api.Whole(math.MinInt64), api.Whole(math.MaxInt64),
		api.OK, api.ErrSort, api.Token{}, api.Type{}, api.Field{}, &api.Node{},
		&whole, &letter, &item, &null, (*api.Whole)(nil), myWhole(1), inside{1},
		struct{}{}, [1]int{}, []int{1}, []api.Whole{1}, []byte("a"), map[int]int{}, func() {}, make(chan int),
		struct{ l []int }{[]int{1}}, [1]any{[]int{}}, []any{api.Whole(1)},
	}
}

func TestIs(t *testing.T) {
	for _, x := range values() {
		if !konst.Is(x.v) {
			t.Errorf("Is(%T %v): no", x.v, x.v)
		}
	}
	for _, v := range nones() {
		if konst.Is(v) {
			t.Errorf("Is(%T %v): yes", v, v)
		}
	}
	for n := int64(-70000); n <= 70000; n++ {
		if is := konst.Is(api.Whole(n)); is != (-32768 <= n && n <= 65535) {
			t.Fatalf("Is(Whole %d): %v", n, is)
		}
	}
}

func TestSame(t *testing.T) {
	l := values()
	for i, x := range l {
		for j, y := range l {
			if konst.Same(x.v, y.v) != (i == j) {
				t.Errorf("Same(%T %v, %T %v): %v", x.v, x.v, y.v, y.v, i != j)
			}
		}
		for _, v := range nones() {
			if konst.Same(x.v, v) || konst.Same(v, x.v) {
				t.Errorf("Same(%T %v, %T %v): yes", x.v, x.v, v, v)
			}
		}
	}
	for _, v := range nones() {
		for _, w := range nones() {
			if !konst.Same(v, w) {
				t.Errorf("Same(%T %v, %T %v): no", v, v, w, w)
			}
		}
	}
}

// What is made anew, byte for byte, is the same.
func TestSameOfCopies(t *testing.T) {
	for _, s := range []string{"", "a", "ab", "a longer one, of many bytes"} {
		if !konst.Same(api.String(s), api.String(append([]byte(nil), s...))) {
			t.Errorf("Same of two of %q: no", s)
		}
		if konst.Same(api.String(s), api.String(s+"x")) || konst.Same(api.String("x"+s), api.String(s)) {
			t.Errorf("Same of %q and a longer one: yes", s)
		}
	}
}

func TestNumber(t *testing.T) {
	for _, x := range values() {
		if n, is := konst.Number(x.v); n != x.number || is != x.has {
			t.Errorf("Number(%T %v): %d, %v", x.v, x.v, n, is)
		}
	}
	for _, v := range nones() {
		if n, is := konst.Number(v); n != 0 || is {
			t.Errorf("Number(%T %v): %d, %v", v, v, n, is)
		}
	}
	for n := int64(-32768); n <= 65535; n++ {
		if m, is := konst.Number(api.Whole(n)); m != n || !is {
			t.Fatalf("Number(Whole %d): %d, %v", n, m, is)
		}
	}
	for b := range 256 {
		for _, v := range []any{api.Letter(b), api.String([]byte{byte(b)}), api.Item{Type: 10, N: int64(b)}} {
			if n, is := konst.Number(v); n != int64(b) || !is {
				t.Errorf("Number(%T %v): %d, %v", v, v, n, is)
			}
		}
	}
	for _, n := range []int64{math.MinInt64, -1, math.MaxInt64} {
		if m, is := konst.Number(api.Item{Type: 12, N: n}); m != n || !is {
			t.Errorf("Number of the Item %d: %d, %v", n, m, is)
		}
	}
}

// must is what Must answers of v, and what it panics with.
func must(v any) (n int64, told any) {
	defer func() { told = recover() }()
	return konst.Must(v), nil
}

func TestMust(t *testing.T) {
	for n := int64(-32768); n <= 65535; n++ {
		if m, told := must(api.Whole(n)); m != n || told != nil {
			t.Fatalf("Must(Whole %d): %d, %v", n, m, told)
		}
	}
	refuse := func(v any) {
		_, told := must(v)
		if _, is := told.(*runtime.TypeAssertionError); !is {
			t.Errorf("Must(%T %v) panics with %v", v, v, told)
		}
	}
	for _, x := range values() {
		if x.sort != "Whole" {
			refuse(x.v)
		}
	}
	for _, v := range nones() {
		if _, is := v.(api.Whole); !is {
			refuse(v)
		}
	}
}

func TestWord(t *testing.T) {
	for _, x := range values() {
		if w, is := konst.Word(x.v); w != x.word || is != x.is {
			t.Errorf("Word(%T %v): %d, %v", x.v, x.v, w, is)
		}
	}
	for _, v := range nones() {
		if w, is := konst.Word(v); w != 0 || is {
			t.Errorf("Word(%T %v): %d, %v", v, v, w, is)
		}
	}
	for n := range 1 << 16 {
		for _, v := range []any{api.Bits(n), api.Whole(n), api.Item{Type: 10, N: int64(n) - 3<<16}} {
			if w, is := konst.Word(v); int(w) != n || !is {
				t.Fatalf("Word(%T %v): %d, %v", v, v, w, is)
			}
		}
	}
	for n := -32768; n < 0; n++ {
		if w, is := konst.Word(api.Whole(n)); int(w) != n+65536 || !is {
			t.Fatalf("Word(Whole %d): %d, %v", n, w, is)
		}
	}
}

func TestOf(t *testing.T) {
	numbers := []int64{
		math.MinInt64, -1 << 32, -65537, -65536, -32769, -32768, -32767, -257, -256, -255, -2, -1, 0, 1, 2, 3, 97,
		254, 255, 256, 257, 32767, 32768, 65534, 65535, 65536, 65537, 1 << 16, 1<<16 + 1, 1 << 32, 1<<32 + 1, math.MaxInt64,
	}
	for typ := -3; typ <= 30; typ++ {
		for _, n := range numbers {
			is := false
			var want any
			switch typ {
			case api.TypeInt, api.TypeCard, api.TypeWhole:
				is, want = -32768 <= n && n <= 65535, api.Whole(n)
			case api.TypeBool:
				is, want = n == 0 || n == 1, api.Truth(n != 0)
			case api.TypeChar:
				is, want = 0 <= n && n <= 255, api.Letter(n)
			default:
				is, want = typ >= 10, api.Item{Type: typ, N: n}
			}
			if !is {
				want = nil
			}
			if v := konst.Of(typ, n); v != want {
				t.Errorf("Of(%d, %d): %T %v, not %T %v", typ, n, v, v, want, want)
			}
		}
	}
	for _, typ := range []int{math.MinInt, math.MaxInt, 1000} {
		got := fmt.Sprintf("%#v", konst.Of(typ, 5))
		want := fmt.Sprintf("%#v", any(api.Item{Type: typ, N: 5}))
		if typ < 0 {
			want = fmt.Sprintf("%#v", any(nil))
		}
		if got != want {
			t.Errorf("Of(%d, 5): %s, not %s", typ, got, want)
		}
	}
}

// What Of answers has the number, and is the same as nothing else.
func TestOfLeadsBack(t *testing.T) {
	for _, typ := range []int{api.TypeInt, api.TypeCard, api.TypeBool, api.TypeChar, api.TypeWhole, 10, 11} {
		for n := int64(-70000); n <= 70000; n++ {
			v := konst.Of(typ, n)
			if v == nil {
				continue
			}
			if m, is := konst.Number(v); m != n || !is || !konst.Is(v) {
				t.Fatalf("Of(%d, %d) is %v, whose number is %d, %v", typ, n, v, m, is)
			}
		}
	}
}
