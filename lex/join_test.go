package lex

import (
	"strings"
	"testing"

	"separatum/api"
)

// P4.2
func TestWord(t *testing.T) {
	if len(reserved) != 40 {
		t.Fatalf("%d reserved words", len(reserved))
	}
	for _, s := range reserved {
		if !Word(s) || Name(s) {
			t.Errorf("%s: Word %v, Name %v", s, Word(s), Name(s))
		}
		for _, s := range []string{strings.ToLower(s), s[:1] + strings.ToLower(s[1:]), s + "X", "X" + s, s + "1"} {
			if Word(s) || !Name(s) {
				t.Errorf("%s: Word %v, Name %v", s, Word(s), Name(s))
			}
		}
		for _, s := range []string{" " + s, s + " ", s + "\n", s + "."} {
			if Word(s) || Name(s) {
				t.Errorf("%q: Word %v, Name %v", s, Word(s), Name(s))
			}
		}
		for i := range len(s) {
			if Word(s[:i]) != isReserved(s[:i]) {
				t.Errorf("%q: Word %v", s[:i], Word(s[:i]))
			}
		}
	}
	for _, s := range []string{"", "&", "~", "#", "AND OR", "INTEGER", "TRUE", "NIL", "BOOLEAN", "NEW", "XOR", "GOTO", "UNSAFE"} {
		if Word(s) {
			t.Errorf("Word(%q)", s)
		}
	}
}

// P4.2
func TestName(t *testing.T) {
	for _, s := range []string{"a", "Z", "a1", "A9z", "INTEGER", "H", "B2", strings.Repeat("a", 32), "z" + strings.Repeat("0", 31)} {
		if !Name(s) {
			t.Errorf("Name(%q): false", s)
		}
	}
	for _, s := range []string{"", "1", "1a", "0FFH", "a b", " a", "a ", "a_b", "_", "é", "aé", "a.b", "a\n", "'a'", "\xff", strings.Repeat("a", 33), strings.Repeat("a", 70000)} {
		if Name(s) {
			t.Errorf("Name(%q)", s)
		}
	}
	for n := range 256 {
		s := string([]byte{byte(n)})
		is := 'A' <= n && n <= 'Z' || 'a' <= n && n <= 'z'
		if Name(s) != is || Name("a"+s) != (is || '0' <= n && n <= '9') {
			t.Errorf("%q: %v, behind a letter: %v", s, Name(s), Name("a"+s))
		}
	}
}

// P4.2
func TestJoin(t *testing.T) {
	end := api.Token{}
	for _, x := range []struct {
		l    []api.Token
		want string
	}{
		{nil, ""}, {[]api.Token{}, ""}, {[]api.Token{end}, ""}, {[]api.Token{named("a")}, "a"}, {[]api.Token{named("a"), end}, "a"}, {[]api.Token{named("a"), sym(":="), num(255), end}, "a := 255"},
		{[]api.Token{word("IF"), word("NOT"), named("a"), word("AND"), named("b")}, "IF NOT a AND b"}, {[]api.Token{sym("#"), sym("("), sym("*"), sym(")")}, "# ( * )"},
		{[]api.Token{num(0), num(7), num(65535)}, "0 7 65535"}, {[]api.Token{char(0), char(7), char(8), char(255)}, "0C 7C 10C 377C"},
		{[]api.Token{str(""), str("a"), str("it's"), str(`"`), str(`say "a"`)}, `"" "a" "it's" '"' 'say "a"'`}, {[]api.Token{str("a b\t\xff")}, "\"a b\t\xff\""},
		{[]api.Token{named("a"), end, named("b")}, "a b"}, {[]api.Token{named("a"), end, end}, "a"},
		{[]api.Token{{Kind: api.TokNum, Text: "x", N: 5, Pos: 3 + 3i}, {Kind: api.TokName, Text: "y", N: 9}, {Kind: api.TokChar, Text: "z", N: 9}, {Kind: api.TokEnd, Text: "w", N: 4}}, "5 y 11C"},
	} {
		before := append([]api.Token{}, x.l...)
		if got := Join(x.l); got != x.want {
			t.Errorf("Join(%v): %q, want %q", x.l, got, x.want)
		}
		if !equal(before, x.l) {
			t.Errorf("Join changed %v to %v", before, x.l)
		}
	}
}

// R1: tokens that Scan may not tell are no harm.
func TestJoinAny(t *testing.T) {
	for n := range 256 {
		for _, x := range []int64{0, -1, 1 << 16, -1 << 63, 1<<63 - 1} {
			for _, s := range []string{"", "'\"", "\n", "\xff"} {
				Join([]api.Token{{Kind: uint8(n), Text: s, N: x}, {Kind: uint8(n), Text: s, N: x}})
			}
		}
	}
}

// P4.3: what is joined is scanned as the same tokens, but for their places; and joining that once more changes nothing.
func TestJoinScan(t *testing.T) {
	again := func(s string) {
		l, _, e := Scan(s)
		if e != api.OK {
			return
		}
		joined := Join(l)
		got, at, e := Scan(joined)
		if e != api.OK || at != 0 || !equal(bare(got), bare(l)) {
			t.Fatalf("%q, joined %q: %v, %v, %d; want %v", s, joined, got, at, e, l)
		}
		if twice := Join(got); twice != joined {
			t.Fatalf("%q, joined %q, joined once more %q", s, joined, twice)
		}
	}
	every(4, []string{"a", "H", "1", "7", "17C", "0FFH", "..", ".", ":", "=", "<", ">", "(", "*", ")", "'", `"`, "&", "~", "END"}, again)
	for n := range 65536 {
		if l, _, e := Scan(Join([]api.Token{num(int64(n)), char(int64(n % 256)), end()})); e != api.OK || !equal(bare(l), []api.Token{num(int64(n)), char(int64(n % 256)), end()}) {
			t.Fatalf("%d: %v, %d", n, l, e)
		}
	}
	for n := range 256 {
		again("'" + string([]byte{byte(n)}) + "'")
		again("\"'" + string([]byte{byte(n), '\''}) + "\"")
	}
}

func end() api.Token { return api.Token{} }

// P4.3: what gets longer than a source may be, as it is joined, is refused.
func TestJoinLong(t *testing.T) {
	for n, want := range map[int]api.Errno{8192: api.OK, 8193: api.ErrLong, 16384: api.ErrLong} {
		l, _, _ := Scan(strings.Repeat(";", n))
		if s := Join(l); len(s) != 2*n-1 {
			t.Errorf("%d symbols: %d bytes", n, len(s))
		} else if _, _, e := Scan(s); e != want {
			t.Errorf("%d symbols, joined: %d", n, e)
		}
	}
}
