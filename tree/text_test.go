package tree

import (
	"math"
	"regexp"
	"strconv"
	"strings"
	"testing"

	"separatum/api"
	"separatum/place"
)

// first is a node's beginning, as the chapter has it, up to the bytes of its name; then is what stands behind these, up to its kids.
var (
	first = regexp.MustCompile(`^\((0|[1-9][0-9]*) (-|[1-9][0-9]*:[1-9][0-9]*) (0|[1-9][0-9]*):`)
	then  = regexp.MustCompile(`^ (0|-?[1-9][0-9]*)`)
)

// known is the tree that s begins with, and what stands behind it, worked out by patterns, without the limits; false, if s begins with no tree's text.
func known(s string) (*api.Node, string, bool) {
	m := first.FindStringSubmatch(s)
	if m == nil {
		return nil, "", false
	}
	s = s[len(m[0]):]
	kind, kindErr := strconv.ParseUint(m[1], 10, 8)
	size, sizeErr := strconv.ParseUint(m[3], 10, 31)
	x := &api.Node{Kind: uint8(kind)}
	if m[2] != "-" {
		line, column, _ := strings.Cut(m[2], ":")
		l, _ := strconv.ParseUint(line, 10, 62)
		c, _ := strconv.ParseUint(column, 10, 62)
		if l > 1<<30 || c > 1<<30 {
			return nil, "", false
		}
		x.Pos = complex(float64(l), float64(c))
	}
	if kindErr != nil || sizeErr != nil || int(size) > len(s) {
		return nil, "", false
	}
	x.Name, s = s[:size], s[size:]
	m = then.FindStringSubmatch(s)
	if m == nil {
		return nil, "", false
	}
	n, err := strconv.ParseInt(m[1], 10, 64)
	x.N, s = n, s[len(m[0]):]
	for err == nil && strings.HasPrefix(s, " ") {
		k, behind, ok := known(s[1:])
		if !ok {
			return nil, "", false
		}
		x.Kids, s = append(x.Kids, k), behind
	}
	if err != nil || !strings.HasPrefix(s, ")") {
		return nil, "", false
	}
	return x, s[1:], true
}

// agrees holds Read of s against known; s is of fewer nodes than may be.
func agrees(t *testing.T, s string) {
	t.Helper()
	want, behind, ok := known(s)
	ok = ok && behind == ""
	x, e := Read(s)
	if ok && (e != api.OK || !exact(x, want)) {
		t.Fatalf("P5.2: %q is a tree's text: %v", s, e)
	}
	if !ok && (e != api.ErrForm || x != nil) {
		t.Fatalf("P5.2: %q is no tree's text: %v %v", s, x, e)
	}
	if ok && Text(x) != s {
		t.Fatalf("P5.2: the tree of %q has the text %q", s, Text(x))
	}
}

// samples is trees with all that a text may have.
func samples() []*api.Node {
	return []*api.Node{
		New(1, 1+1i, "ab", 0),
		{},
		New(255, place.Of(1<<30, 1<<30), "", math.MaxInt64),
		New(0, 0, "0", math.MinInt64),
		New(10, 10+20i, "a b", -10, nil, New(100, 3+1i, ")", 7), New(7, 1+9i, " (1 - 0: 0)", 1)),
		New(6, 1+1i, "\n:\x00\xff\xc3", -1, New(5, 2+2i, "1 1:1 0: 0", 5, nil)),
		New(52, 1+1i, strings.Repeat("name", 30), 0, node(node(nil), nil), node()),
	}
}

// P5.2
func TestText(t *testing.T) {
	for _, x := range []struct {
		x *api.Node
		s string
	}{
		{nil, ""},
		{New(1, 1+1i, "ab", 0), "(1 1:1 2:ab 0)"},
		{&api.Node{}, "(0 - 0: 0)"},
		{New(255, 12+345i, "", -1), "(255 12:345 0: -1)"},
		{New(5, complex(1<<30+1, 1), "", 1), "(5 - 0: 1)"},
		{New(5, 0.5+1i, "", math.MinInt64), "(5 - 0: -9223372036854775808)"},
		{New(5, complex(math.NaN(), 1), "", math.MaxInt64), "(5 - 0: 9223372036854775807)"},
		{New(5, place.Of(1<<30, 1<<30), "", 10), "(5 1073741824:1073741824 0: 10)"},
		{New(7, 2+1i, "a b) (\n", 0), "(7 2:1 7:a b) (\n 0)"},
		{New(7, 2+1i, "\u00e4\x00", 0), "(7 2:1 3:\u00e4\x00 0)"},
		{New(11, 1+3i, "-", 0, New(1, 1+1i, "a", 0), nil), "(11 1:3 1:- 0 (1 1:1 1:a 0) (0 - 0: 0))"},
		{node(node(node()), node()), "(1 1:1 0: 0 (1 1:1 0: 0 (1 1:1 0: 0)) (1 1:1 0: 0))"},
	} {
		if s := Text(x.x); s != x.s {
			t.Errorf("P5.2: %q, not %q", s, x.s)
		}
	}
}

// P5.2, P5.3
func TestReadText(t *testing.T) {
	l := samples()
	for n := 1; n <= 7; n++ {
		l = append(l, shapes(n)...)
	}
	for _, a := range []*api.Node{chain(api.MaxDeep), bush(api.MaxNodes)} {
		l = append(l, a)
	}
	for _, x := range l {
		y, e := Read(Text(x))
		if e != api.OK || !exact(y, x) {
			t.Fatal("P5.3", Text(x), e, Text(y))
		}
	}
	if x, e := Read(Text(New(1, 0.5, "a", 1))); e != api.OK || x.Pos != 0 {
		t.Error("P5.3: a Pos that is no place", e)
	}
}

// P5.2: what is cut, and what is no text from its beginning on.
func TestReadCut(t *testing.T) {
	for _, x := range samples() {
		s := Text(x)
		for i := range len(s) {
			if x, e := Read(s[:i]); e != api.ErrForm || x != nil {
				t.Errorf("P5.2: %q, cut at %d: %v", s, i, e)
			}
		}
		for _, behind := range []string{" ", ")", "(", "0", "\n", s, " " + s} {
			if x, e := Read(s + behind); e != api.ErrForm || x != nil {
				t.Errorf("P5.2: %q, and %q behind it: %v", s, behind, e)
			}
		}
	}
	for _, s := range []string{"", " ", "(", ")", "()", "( )", "-", "0", "(0)", "(0 - 0:)", "(0 - 0: )", "(0  0: 0)", "(0 -  0)", "(0 - : 0)", "(1 - 0: 0 )", "[0 - 0: 0]"} {
		agrees(t, s)
	}
}

// P5.2: each number has one way to be written, and its bounds.
func TestReadNumbers(t *testing.T) {
	for _, s := range []string{"0", "1", "9", "10", "00", "01", "-0", "-1", "-01", "+1", "--1", "1-", "-", "", " 1", "1 ", "0x1", "1_0", "1e1", "1.0", "\u0661", "255", "256", "300", "1000", "-256",
		"1073741824", "1073741825", "2147483647", "2147483648", "4294967296", "9223372036854775807", "9223372036854775808", "-9223372036854775808", "-9223372036854775809", "18446744073709551616", "18446744073709551617", strings.Repeat("9", 400), strings.Repeat("0", 400), "-" + strings.Repeat("9", 400)} {
		agrees(t, "("+s+" - 1:a 0)")
		agrees(t, "(1 "+s+" 1:a 0)")
		agrees(t, "(1 "+s+":1 1:a 0)")
		agrees(t, "(1 1:"+s+" 1:a 0)")
		agrees(t, "(1 1:1 "+s+":a 0)")
		agrees(t, "(1 1:1 "+s+": 0)")
		agrees(t, "(1 1:1 1:a "+s+")")
		agrees(t, "(1 1:1 1:a "+s+" (1 - 0: 0))")
	}
}

// P5.2: one byte more, less, or another one.
func TestReadChanged(t *testing.T) {
	const bytes = "()-: 0123456789a+\n\x00\xff"
	for _, x := range samples() {
		s := Text(x)
		for i := range len(s) {
			agrees(t, s[:i]+s[i+1:])
			for _, b := range []byte(bytes) {
				agrees(t, s[:i]+string([]byte{b})+s[i+1:])
				agrees(t, s[:i]+string([]byte{b})+s[i:])
			}
		}
	}
}

// P5.2: all short texts of pieces that a text is made of.
func TestReadPieces(t *testing.T) {
	pieces := []string{"(", "(1 - 0: 0", "1 1:1 1:", "0 ", " ", ")", "-"}
	var more func(s string, n int)
	more = func(s string, n int) {
		agrees(t, s)
		for i := 0; n > 0 && i < len(pieces); i++ {
			more(s+pieces[i], n-1)
		}
	}
	more("", 6)
}

// opened is the beginning of a text of n nodes, of which none is closed.
func opened(n int) string {
	return strings.TrimSuffix(strings.Repeat("(1 - 0: 0 ", n), " ")
}

// closed is the text of a node with n - 1 kids, without its last parenthesis.
func closed(n int) string { return "(1 - 0: 0" + strings.Repeat(" (1 - 0: 0)", n-1) }

// P5.2
func TestReadBounds(t *testing.T) {
	deep, many := opened(api.MaxDeep), closed(api.MaxNodes)
	shut := func(n int) string { return strings.Repeat(")", n) }
	for _, x := range []struct {
		what string
		s    string
		e    api.Errno
	}{
		{"as deep as may be", deep + shut(api.MaxDeep), api.OK},
		{"one too deep", deep + " (1 - 0: 0" + shut(api.MaxDeep+1), api.ErrDeep},
		{"one too deep begins", deep + " (", api.ErrDeep},
		{"one too deep, and no text behind", deep + " (x", api.ErrDeep},
		{"one too deep does not begin", deep + " ", api.ErrForm},
		{"something else ahead", deep + "  (", api.ErrForm},
		{"no blank ahead", deep + "(", api.ErrForm},
		{"a second kid as deep as may be", deep + ") (1 - 0: 0" + shut(api.MaxDeep), api.OK},
		{"a second kid that is too deep", deep + ") (1 - 0: 0 (", api.ErrDeep},
		{"no text, then too deep", "(x" + deep + " (", api.ErrForm},
		{"no text far in, then too deep", opened(50) + "x " + opened(51) + " (", api.ErrForm},
		{"behind the end", deep + shut(api.MaxDeep) + " (", api.ErrForm},

		{"as many as may be", many + ")", api.OK},
		{"one too many", many + " (1 - 0: 0))", api.ErrMany},
		{"one too many begins", many + " (", api.ErrMany},
		{"one too many, and no text behind", many + " (x", api.ErrMany},
		{"one too many does not begin", many + " ", api.ErrForm},
		{"something else ahead", many + "x (", api.ErrForm},
		{"no blank ahead", many + "(", api.ErrForm},
		{"as many as may be, then more than a text", many + ") (1 - 0: 0)", api.ErrForm},
		{"no text, then too many", closed(5) + " (1 - 0:x) " + many, api.ErrForm},

		{"both at one node", closed(api.MaxNodes-api.MaxDeep+1) + " " + opened(api.MaxDeep-1) + " (", api.ErrDeep},
		{"one less, at the same depth", closed(api.MaxNodes-api.MaxDeep) + " " + opened(api.MaxDeep-1) + " (", api.ErrDeep},
		{"one more, so many first", closed(api.MaxNodes-api.MaxDeep+2) + " " + opened(api.MaxDeep-1) + " (", api.ErrMany},
		{"deep first, many behind", deep + " (1 - 0: 0) " + many, api.ErrDeep},
		{"many first, deep behind", many + " " + deep + " (", api.ErrMany},
	} {
		y, e := Read(x.s)
		if e != x.e || (y == nil) != (e != api.OK) {
			t.Error("P5.2:", x.what, e)
		}
	}
	if x, _ := Read(deep + strings.Repeat(")", api.MaxDeep)); Deep(x) != api.MaxDeep {
		t.Error("P5.2: how deep", Deep(x))
	}
	if x, _ := Read(many + ")"); Count(x) != api.MaxNodes {
		t.Error("P5.2: how many", Count(x))
	}
}

// P5.2, P5.3: a tree beyond a bound has a text, but is not read.
func TestTextBeyond(t *testing.T) {
	for _, x := range []struct {
		x *api.Node
		e api.Errno
	}{{chain(api.MaxDeep), api.OK}, {chain(api.MaxDeep + 1), api.ErrDeep}, {bush(api.MaxNodes), api.OK}, {bush(api.MaxNodes + 1), api.ErrMany}, {chain(1 << 16), api.ErrDeep}, {bush(1 << 16), api.ErrMany}} {
		s := Text(x.x)
		if strings.Count(s, "(") != Count(x.x) || strings.Count(s, ")") != Count(x.x) {
			t.Error("P5.2: the text", Count(x.x))
		}
		if y, e := Read(s); e != x.e || e == api.OK && !exact(y, x.x) || e != api.OK && y != nil {
			t.Error("P5.2", Count(x.x), Deep(x.x), e)
		}
	}
}

// R5: what is read is new each time, and places are those of layer 3.
func TestReadAnew(t *testing.T) {
	s := "(1 2:3 1:a 4 (2 - 0: 0))"
	a, _ := Read(s)
	b, _ := Read(s)
	a.Kids[0].N, a.Kids = 9, append(a.Kids, node())
	if Text(b) != s || b.Pos != place.Of(2, 3) {
		t.Error("R5", Text(b))
	}
}
