package lex

import (
	"strconv"
	"strings"

	"separatum/api"
)

// blank is how many blank bytes stand at the beginning of s, up to a comment that does not end.
func blank(s string) (size int, e api.Errno) {
	for size < len(s) {
		more := count(s[size:], isBlank)
		if strings.HasPrefix(s[size:], "(*") {
			more = comment(s[size:])
			if more == 0 {
				return size, api.ErrComment
			}
		}
		if more == 0 {
			break
		}
		size += more
	}
	return size, api.OK
}

// comment is how many bytes the comment at the beginning of s has; 0, if it does not end.
func comment(s string) int {
	deep := 0
	for i := 0; i < len(s); i++ {
		// A byte is part of one mark at most: in (*) the star does not end what it began.
		switch {
		case strings.HasPrefix(s[i:], "(*"):
			deep++
			i++
		case strings.HasPrefix(s[i:], "*)"):
			deep--
			i++
			if deep == 0 {
				return i + 1
			}
		}
	}
	return 0
}

// first is the token at the beginning of s, where nothing blank stands, but for its places, and how many bytes it has; or nothing, and why there is none.
func first(s string) (t api.Token, size int, e api.Errno) {
	switch {
	case s == "":
		return api.Token{Kind: api.TokEnd}, 0, api.OK
	case letter(s[0]):
		return name(s)
	case digit(s[0]):
		return number(s)
	case s[0] == '\'' || s[0] == '"':
		return quoted(s)
	}
	text, size := symbol(s)
	if size == 0 {
		return api.Token{}, 0, api.ErrChar
	}
	return token(api.TokSym, text), size, api.OK
}

// name is the name, or the reserved word, at the beginning of s.
func name(s string) (t api.Token, size int, e api.Errno) {
	size = count(s, inName)
	if size > api.MaxName {
		return api.Token{}, 0, api.ErrLong
	}
	return token(api.TokName, s[:size]), size, api.OK
}

// number is the number, or the character by its number, at the beginning of s.
func number(s string) (t api.Token, size int, e api.Errno) {
	size = count(s, inNumber)
	if strings.HasPrefix(s[size:], "H") {
		size++
	}
	// The greatest number that may be has all of 16 bits, the greatest character all of 8.
	kind, digits, base, bits := api.TokNum, s[:size-1], 8, 16
	switch s[size-1] {
	case 'H':
		base = 16
	case 'B':
	case 'C':
		kind, bits = api.TokChar, 8
	default:
		digits, base = s[:size], 10
	}
	n, err := strconv.ParseUint(digits, base, bits)
	if err != nil {
		return api.Token{}, 0, api.ErrNumber
	}
	return api.Token{Kind: kind, N: int64(n)}, size, api.OK
}

// quoted is the string at the beginning of s.
func quoted(s string) (t api.Token, size int, e api.Errno) {
	text, _, ends := strings.Cut(s[1:], s[:1])
	if !ends || strings.Contains(text, "\n") {
		return api.Token{}, 0, api.ErrString
	}
	return api.Token{Kind: api.TokStr, Text: strings.Clone(text)}, len(text) + 2, api.OK
}

// symbol is the one way to write the symbol at the beginning of s, and how many bytes it has; 0 bytes, if there is none.
func symbol(s string) (text string, size int) {
	switch s[0] {
	case '&':
		return "AND", 1
	case '~':
		return "NOT", 1
	case '.':
		if strings.HasPrefix(s, "..") {
			return "..", 2
		}
		return ".", 1
	case '<':
		if strings.HasPrefix(s, "<>") {
			return "#", 2
		}
		fallthrough
	case '>', ':':
		if strings.HasPrefix(s[1:], "=") {
			return s[:2], 2
		}
		fallthrough
	case '+', '-', '*', '/', ',', ';', '(', '[', '{', '^', '=', '#', ')', ']', '}', '|':
		return s[:1], 1
	}
	return "", 0
}

// token is a token of that kind and text; of a reserved word, if the text is one. The text is copied, so that no token keeps a whole source.
func token(kind uint8, text string) api.Token {
	if Word(text) {
		kind = api.TokWord
	}
	return api.Token{Kind: kind, Text: strings.Clone(text)}
}

// count is how many bytes at the beginning of s are of a kind.
func count(s string, is func(b byte) bool) int {
	for i := range len(s) {
		if !is(s[i]) {
			return i
		}
	}
	return len(s)
}

func isBlank(b byte) bool { return b == 9 || b == 10 || b == 13 || b == 32 }

func letter(b byte) bool { return 'A' <= b && b <= 'Z' || 'a' <= b && b <= 'z' }

func digit(b byte) bool { return '0' <= b && b <= '9' }

// inName tells whether b may stand in a name behind its first byte.
func inName(b byte) bool { return letter(b) || digit(b) }

// inNumber tells whether b may stand in a number ahead of an H.
func inNumber(b byte) bool { return digit(b) || 'A' <= b && b <= 'F' }
