package lex

import (
	"strings"
	"testing"

	"separatum/api"
)

func named(s string) api.Token { return api.Token{Kind: api.TokName, Text: s} }
func num(n int64) api.Token    { return api.Token{Kind: api.TokNum, N: n} }
func char(n int64) api.Token   { return api.Token{Kind: api.TokChar, N: n} }
func str(s string) api.Token   { return api.Token{Kind: api.TokStr, Text: s} }
func sym(s string) api.Token   { return api.Token{Kind: api.TokSym, Text: s} }
func word(s string) api.Token  { return api.Token{Kind: api.TokWord, Text: s} }

// P4.1: tokens, but for their places.
func TestScan(t *testing.T) {
	for _, x := range []struct {
		s    string
		want []api.Token
	}{
		{"", nil}, {" \t\r\n", nil}, {"(**)", nil}, {"(* (* a *) ! ' *)", nil}, {"(***)(* * *)", nil}, {"(*(**)*)", nil}, {"(*\n*)", nil},
		{"a:=0FFH (* b *)", []api.Token{named("a"), sym(":="), num(255)}}, {"1..2", []api.Token{num(1), sym(".."), num(2)}},
		{"a", []api.Token{named("a")}}, {"aZ09z", []api.Token{named("aZ09z")}}, {"END", []api.Token{word("END")}}, {"End ENDS", []api.Token{named("End"), named("ENDS")}},
		{"0", []api.Token{num(0)}}, {"65535", []api.Token{num(65535)}}, {"0000000000000000000000000000065535", []api.Token{num(65535)}}, {"10", []api.Token{num(10)}},
		{"10B", []api.Token{num(8)}}, {"177777B", []api.Token{num(65535)}}, {"0B", []api.Token{num(0)}}, {"10C", []api.Token{char(8)}}, {"377C", []api.Token{char(255)}}, {"0C", []api.Token{char(0)}},
		{"10H", []api.Token{num(16)}}, {"0FFFFH", []api.Token{num(65535)}}, {"0ABCDH", []api.Token{num(0xABCD)}}, {"10BH", []api.Token{num(0x10B)}}, {"9CH", []api.Token{num(0x9C)}}, {"0H", []api.Token{num(0)}},
		{"1HH", []api.Token{num(1), named("H")}}, {"1H2", []api.Token{num(1), num(2)}}, {"12x", []api.Token{num(12), named("x")}}, {"12h", []api.Token{num(12), named("h")}}, {"1a", []api.Token{num(1), named("a")}},
		{"12OR", []api.Token{num(12), word("OR")}}, {"1G", []api.Token{num(1), named("G")}}, {"7CHR", []api.Token{num(0x7C), named("R")}},
		{"'a'", []api.Token{str("a")}}, {`"a"`, []api.Token{str("a")}}, {"''\"\"", []api.Token{str(""), str("")}}, {`'"'"'"`, []api.Token{str(`"`), str("'")}}, {"'(*'", []api.Token{str("(*")}},
		{"'\r\t\x00\xff'", []api.Token{str("\r\t\x00\xff")}}, {"'é'", []api.Token{str("é")}}, {"'a''b'", []api.Token{str("a"), str("b")}},
		{"<>", []api.Token{sym("#")}}, {"#", []api.Token{sym("#")}}, {"& AND", []api.Token{word("AND"), word("AND")}}, {"~ NOT", []api.Token{word("NOT"), word("NOT")}},
		{"...", []api.Token{sym(".."), sym(".")}}, {"<=>=<>", []api.Token{sym("<="), sym(">="), sym("#")}}, {": =", []api.Token{sym(":"), sym("=")}}, {"=<", []api.Token{sym("="), sym("<")}},
		{"*)", []api.Token{sym("*"), sym(")")}}, {"( *", []api.Token{sym("("), sym("*")}}, {"(**)*)", []api.Token{sym("*"), sym(")")}}, {"a(*b*)c", []api.Token{named("a"), named("c")}}, {"1(**)B", []api.Token{num(1), named("B")}},
	} {
		l, at, e := Scan(x.s)
		if want := append(x.want, api.Token{}); e != api.OK || at != 0 || !equal(bare(l), want) {
			t.Errorf("Scan(%q): %v, %v, %d; want %v", x.s, l, at, e, want)
		}
		check(t, x.s)
	}
}

// P4.1: each symbol, alone and between others, is of as many bytes as may be.
func TestSymbols(t *testing.T) {
	symbols := strings.Fields("+ - * / ~ := . , ; ( [ { ^ = # <> < > <= >= .. : ) ] } | &")
	for _, s := range symbols {
		l, _, e := Scan(s)
		if e != api.OK || len(l) != 2 || l[0].End != complex(1, float64(1+len(s))) {
			t.Errorf("Scan(%q): %v, %d", s, l, e)
		}
	}
	every(3, symbols, func(s string) { check(t, s) })
	every(6, []string{".", ":", "=", "<", ">"}, func(s string) { check(t, s) })
}

// P4.1: where tokens begin and end.
func TestPlaces(t *testing.T) {
	l, _, e := Scan("a:=\n  'x y' (* c\n *) 0FFH\r\n;")
	want := []api.Token{
		{Kind: api.TokName, Pos: 1 + 1i, End: 1 + 2i, Text: "a"}, {Kind: api.TokSym, Pos: 1 + 2i, End: 1 + 4i, Text: ":="}, {Kind: api.TokStr, Pos: 2 + 3i, End: 2 + 8i, Text: "x y"},
		{Kind: api.TokNum, Pos: 3 + 5i, End: 3 + 9i, N: 255}, {Kind: api.TokSym, Pos: 4 + 1i, End: 4 + 2i, Text: ";"}, {Kind: api.TokEnd, Pos: 4 + 2i, End: 4 + 2i},
	}
	if e != api.OK || !equal(l, want) {
		t.Errorf("%v, %d", l, e)
	}
	for s, want := range map[string]complex128{"": 1 + 1i, "  ": 1 + 3i, "\n": 2 + 1i, "a(*\n\n*) ": 3 + 4i} {
		if l, _, e := Scan(s); e != api.OK || (l[len(l)-1].Pos != want || l[len(l)-1].End != want) {
			t.Errorf("Scan(%q): %v, want the end at %v", s, l, want)
		}
	}
}

// P4.1
func TestErrors(t *testing.T) {
	for _, x := range []struct {
		s  string
		at complex128
		e  api.Errno
	}{
		{"9B", 1 + 1i, api.ErrNumber}, {"a 9B", 1 + 3i, api.ErrNumber}, {"8C", 1 + 1i, api.ErrNumber}, {"1A", 1 + 1i, api.ErrNumber}, {"1D", 1 + 1i, api.ErrNumber}, {"1E5", 1 + 1i, api.ErrNumber}, {"1F G", 1 + 1i, api.ErrNumber},
		{"65536", 1 + 1i, api.ErrNumber}, {"200000B", 1 + 1i, api.ErrNumber}, {"10000H", 1 + 1i, api.ErrNumber}, {"400C", 1 + 1i, api.ErrNumber}, {"177777C", 1 + 1i, api.ErrNumber}, {"99999999999999999999999999", 1 + 1i, api.ErrNumber},
		{"18446744073709551616", 1 + 1i, api.ErrNumber}, {"10000000000000001H", 1 + 1i, api.ErrNumber}, {"12END", 1 + 1i, api.ErrNumber}, {"12DIV", 1 + 1i, api.ErrNumber}, {"1BB", 1 + 1i, api.ErrNumber}, {"1BC", 1 + 1i, api.ErrNumber}, {"1CB", 1 + 1i, api.ErrNumber}, {"1B2", 1 + 1i, api.ErrNumber},
		{"'", 1 + 1i, api.ErrString}, {"a := \"b", 1 + 6i, api.ErrString}, {"'a\n'", 1 + 1i, api.ErrString}, {"'a\"", 1 + 1i, api.ErrString}, {"''\n '", 2 + 2i, api.ErrString}, {"'(*\n*)'", 1 + 1i, api.ErrString},
		{"(*", 1 + 1i, api.ErrComment}, {"(*)", 1 + 1i, api.ErrComment}, {"a\n (* (* *)", 2 + 2i, api.ErrComment}, {"(* (*) *)", 1 + 1i, api.ErrComment}, {"(**)(*", 1 + 5i, api.ErrComment}, {"(* ' *) (* *", 1 + 9i, api.ErrComment}, {"(*(*", 1 + 1i, api.ErrComment},
		{"!", 1 + 1i, api.ErrChar}, {"a_b", 1 + 2i, api.ErrChar}, {" é", 1 + 2i, api.ErrChar}, {"a\n\x00", 2 + 1i, api.ErrChar}, {"\v", 1 + 1i, api.ErrChar}, {"\f", 1 + 1i, api.ErrChar}, {"\u00a0", 1 + 1i, api.ErrChar},
		{"! 9B ' (*", 1 + 1i, api.ErrChar}, {"9B ! ' (*", 1 + 1i, api.ErrNumber}, {"' 9B ! (*", 1 + 1i, api.ErrString}, {"(* 9B ' !", 1 + 1i, api.ErrComment}, {"(*!*)9B", 1 + 6i, api.ErrNumber},
	} {
		l, at, e := Scan(x.s)
		if len(l) != 0 || at != x.at || e != x.e {
			t.Errorf("Scan(%q): %v, %v, %d; want %v, %d", x.s, l, at, e, x.at, x.e)
		}
		check(t, x.s)
	}
}

// P4.1: a byte that begins no token is told, any other one is not.
func TestBytes(t *testing.T) {
	for n := range 256 {
		b := string([]byte{byte(n)})
		for _, s := range []string{b, "a" + b, "1" + b, "(" + b, b + b, b + "1", b + "=", "'" + b + "'", "(*" + b + "*)"} {
			check(t, s)
		}
		for m := range 256 {
			check(t, b+string([]byte{byte(m)}))
		}
	}
}

// P4.1: names up to their limit, at the beginning and behind it.
func TestLongName(t *testing.T) {
	most, more := "a"+strings.Repeat("9Z", 15)+"b", "a"+strings.Repeat("9", 32)
	if l, at, e := Scan("x " + most); len(l) != 3 || l[1].Text != most || at != 0 || e != api.OK {
		t.Errorf("a name of 32: %v, %v, %d", l, at, e)
	}
	for s, want := range map[string]complex128{more: 1 + 1i, "x\n " + more + " !": 2 + 2i, "MODULE" + more: 1 + 1i, "(" + more + more: 1 + 2i, "1" + "x" + strings.Repeat("y", 32): 1 + 2i} {
		if l, at, e := Scan(s); len(l) != 0 || at != want || e != api.ErrLong {
			t.Errorf("Scan(%q): %v, %v, %d", s, l, at, e)
		}
	}
}

// P4.1: sources up to their limit; a longer one is refused ahead of all else that is wrong in it.
func TestLongSource(t *testing.T) {
	for _, s := range []string{strings.Repeat(" ", 16384), strings.Repeat("a ", 8192), strings.Repeat("\n", 16383) + ";", strings.Repeat("(*", 4096) + strings.Repeat("*)", 4096), strings.Repeat("0", 16384), "'" + strings.Repeat("x", 16382) + "'"} {
		check(t, s)
		if _, _, e := Scan(s); len(s) != api.MaxSource || e != api.OK {
			t.Errorf("a source of %d bytes: %d", len(s), e)
		}
		for _, s := range []string{s + " ", s + s, "!" + s, "\n(*" + s, " 9B" + s, "'\n" + s} {
			if l, at, e := Scan(s); len(l) != 0 || at != 1+1i || e != api.ErrLong {
				t.Errorf("a source of %d bytes: %v, %v, %d", len(s), l, at, e)
			}
		}
	}
	check(t, strings.Repeat(" ", 16383)+"!")
	check(t, strings.Repeat("(*", 8192))
}

// P4.1: every short source of pieces in which one kind of token turns into another.
func TestScanAll(t *testing.T) {
	for _, x := range []struct {
		n      int
		pieces []string
	}{
		{6, []string{"(", "*", ")", "\n", "a"}},
		{5, []string{"0", "1", "7", "8", "A", "B", "C", "F", "H"}},
		{5, []string{"'", `"`, "\n", "a", "(*", "*)", " "}},
		{4, []string{"a", "1", "B", ".", ":", "=", "<", ">", " ", "\n", "(*", "*)", "'", "!"}},
		{3, []string{"IF", "END", "x", "H", "12", "0FFH", "17B", "17C", "65535", "65536", "377C", "400C", "&", "~", "<>", "..", " ", "\r\n", "é", "'é'", "_"}},
	} {
		every(x.n, x.pieces, func(s string) { check(t, s) })
	}
}

// P4.3: what stands behind an error makes no difference.
func TestBehindError(t *testing.T) {
	rests := []string{"", "'", `"`, "*)", "(*", "!", "9B", "a := 1;\nEND", strings.Repeat("x", 40), "\xff\x00"}
	for _, s := range []string{"!", "a !", "9B ", "(1)\n 65536,", "'\n", "x \"'\n", strings.Repeat("y", 33) + "."} {
		_, at, e := Scan(s)
		if e == api.OK {
			t.Errorf("Scan(%q): no error", s)
		}
		for _, rest := range rests {
			if l, at2, e2 := Scan(s + rest); len(l) != 0 || at2 != at || e2 != e {
				t.Errorf("Scan(%q): %v, %v, %d; want %v, %d", s+rest, l, at2, e2, at, e)
			}
		}
	}
}

// P4.3: what is blank makes no difference but to places, if something is.
func TestBlanks(t *testing.T) {
	l, _, _ := Scan("MODULE a; VAR x: ARRAY [0..9] OF CHAR; BEGIN x[1] := 'q'; IF ~(x <> 12C) & (1 <= 0FH) THEN x^ := {1, 2..17B} END END a.")
	texts := make([]string, len(l))
	for i := range l {
		texts[i] = Join(l[i : i+1])
	}
	for _, blank := range []string{" ", "\t", "\n", "\r", "\r\n", "   ", "(**)", "(* x *)", " (* (* ' *) \n*) ", "(*a*)(*b*)"} {
		s := blank + strings.Join(texts, blank)
		check(t, s)
		if got, _, e := Scan(s); e != api.OK || !equal(bare(got), bare(l)) {
			t.Errorf("Scan(%q): %v, %d", s, got, e)
		}
	}
}

// R5, R6: no answer has to do with another one.
func TestScanTwice(t *testing.T) {
	const s = "a := 'b' + 1"
	one, _, _ := Scan(s)
	two, _, _ := Scan(s)
	for i := range one {
		one[i] = api.Token{}
	}
	three, _, _ := Scan(s)
	if !equal(two, three) || two[0].Text != "a" {
		t.Errorf("%v, %v", two, three)
	}
}
