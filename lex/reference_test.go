package lex

import (
	"math/big"
	"regexp"
	"strings"
	"testing"

	"separatum/api"
)

// The chapter's words once more, as patterns: what Scan tells is held against them.
var (
	blankRow  = regexp.MustCompile(`^[\t\n\r ]+`)
	marks     = regexp.MustCompile(`\(\*|\*\)`)
	nameRow   = regexp.MustCompile(`^[A-Za-z][A-Za-z0-9]*`)
	numberRow = regexp.MustCompile(`^[0-9][0-9A-F]*H?`)
	stringRow = regexp.MustCompile(`^(?:'[^'\n]*'|"[^"\n]*")`)
	symbolRow = regexp.MustCompile(`^(?::=|<>|<=|>=|\.\.|[-+*/~.,;(\[{^=#<>:)\]}|&])`)
)

// bases is the forms that numbers have, and their digits' base.
var bases = []struct {
	form *regexp.Regexp
	base int
	kind uint8
	most int64
}{
	{regexp.MustCompile(`^([0-9]+)$`), 10, api.TokNum, 65535},
	{regexp.MustCompile(`^([0-7]+)B$`), 8, api.TokNum, 65535},
	{regexp.MustCompile(`^([0-7]+)C$`), 8, api.TokChar, 255},
	{regexp.MustCompile(`^([0-9A-F]+)H$`), 16, api.TokNum, 65535},
}

// reserved is the reserved words, as the chapter lists them.
var reserved = strings.Fields(`AND ARRAY BEGIN BY CASE CONST DEFINITION DIV DO ELSE ELSIF END EXIT EXPORT FOR FROM IF IMPLEMENTATION IMPORT IN
LOOP MOD MODULE NOT OF OR POINTER PROCEDURE QUALIFIED RECORD REPEAT RETURN SET THEN TO TYPE UNTIL VAR WHILE WITH`)

func isReserved(s string) bool {
	for _, w := range reserved {
		if w == s {
			return true
		}
	}
	return false
}

// where is the place of byte n of s, counted by the line ends ahead of it.
func where(s string, n int) complex128 {
	return complex(float64(1+strings.Count(s[:n], "\n")), float64(n-strings.LastIndex(s[:n], "\n")))
}

// commented is where the comment ends that begins at byte at of s; 0, if nowhere.
func commented(s string, at int) int {
	deep := 0
	for _, x := range marks.FindAllStringIndex(s[at:], -1) {
		if s[at+x[0]] == '(' {
			deep++
		} else {
			deep--
		}
		if deep == 0 {
			return at + x[1]
		}
	}
	return 0
}

// numbered is the token that the text of a number is, but for its places.
func numbered(text string) (api.Token, api.Errno) {
	for _, x := range bases {
		if m := x.form.FindStringSubmatch(text); m != nil {
			if n, ok := new(big.Int).SetString(m[1], x.base); ok && n.Cmp(big.NewInt(x.most)) <= 0 {
				return api.Token{Kind: x.kind, N: n.Int64()}, api.OK
			}
		}
	}
	return api.Token{}, api.ErrNumber
}

// lexeme is the token at the beginning of s, but for its places, its bytes; or the error.
func lexeme(s string) (t api.Token, size int, e api.Errno) {
	if m := nameRow.FindString(s); m != "" {
		if len(m) > 32 {
			return t, 0, api.ErrLong
		}
		if isReserved(m) {
			return api.Token{Kind: api.TokWord, Text: m}, len(m), api.OK
		}
		return api.Token{Kind: api.TokName, Text: m}, len(m), api.OK
	}
	if m := numberRow.FindString(s); m != "" {
		t, e = numbered(m)
		return t, len(m), e
	}
	if s[0] == '\'' || s[0] == '"' {
		m := stringRow.FindString(s)
		if m == "" {
			return t, 0, api.ErrString
		}
		return api.Token{Kind: api.TokStr, Text: m[1 : len(m)-1]}, len(m), api.OK
	}
	switch m := symbolRow.FindString(s); m {
	case "":
		return t, 0, api.ErrChar
	case "&":
		return api.Token{Kind: api.TokWord, Text: "AND"}, 1, api.OK
	case "~":
		return api.Token{Kind: api.TokWord, Text: "NOT"}, 1, api.OK
	case "<>":
		return api.Token{Kind: api.TokSym, Text: "#"}, 2, api.OK
	default:
		return api.Token{Kind: api.TokSym, Text: m}, len(m), api.OK
	}
}

// scanned is what Scan is to answer.
func scanned(s string) ([]api.Token, complex128, api.Errno) {
	if len(s) > 16384 {
		return nil, 1 + 1i, api.ErrLong
	}
	var l []api.Token
	for at := 0; ; {
		at += len(blankRow.FindString(s[at:]))
		if strings.HasPrefix(s[at:], "(*") {
			behind := commented(s, at)
			if behind == 0 {
				return nil, where(s, at), api.ErrComment
			}
			at = behind
			continue
		}
		if at == len(s) {
			return append(l, api.Token{Kind: api.TokEnd, Pos: where(s, at), End: where(s, at)}), 0, api.OK
		}
		t, size, e := lexeme(s[at:])
		if e != api.OK {
			return nil, where(s, at), e
		}
		t.Pos, t.End = where(s, at), where(s, at+size)
		l = append(l, t)
		at += size
	}
}

// every calls f with every text of up to n of the pieces.
func every(n int, pieces []string, f func(s string)) {
	var more func(s string, left int)
	more = func(s string, left int) {
		f(s)
		for _, x := range pieces {
			if left > 0 {
				more(s+x, left-1)
			}
		}
	}
	more("", n)
}

// check holds what Scan tells of s against the patterns.
func check(t *testing.T, s string) {
	t.Helper()
	l, at, e := Scan(s)
	wantL, wantAt, wantE := scanned(s)
	if e != wantE || at != wantAt || !equal(l, wantL) {
		t.Fatalf("Scan(%q): %v, %v, %d; want %v, %v, %d", s, l, at, e, wantL, wantAt, wantE)
	}
}

func equal(a, b []api.Token) bool {
	if len(a) != len(b) {
		return false
	}
	for i := range a {
		if a[i] != b[i] {
			return false
		}
	}
	return true
}

// bare is the tokens without their places.
func bare(l []api.Token) []api.Token {
	var r []api.Token
	for _, x := range l {
		r = append(r, api.Token{Kind: x.Kind, Text: x.Text, N: x.N})
	}
	return r
}
