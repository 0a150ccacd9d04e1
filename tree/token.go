package tree

import (
	"strings"

	"bloomery/api"
)

// kind is what a token is.
type kind int

// Kinds of tokens. A WORD that words does not have is a name: that is the zero kind.
const (
	name  kind = iota
	fixed      // a mark, or a word of the grammar: it stands for itself
	number
	end // behind the last token
)

// token is a piece of a text, and where it begins. Only a fixed one has a fixed one's text, and only the end has none.
type token struct {
	kind kind
	text string
	at   int
}

// Bytes of which words and numbers are made.
const (
	digits  = "0123456789"
	letters = "abcdefghijklmnopqrstuvwxyz_"
)

// marks, in the order in which they are tried: one that begins another stands behind it.
var marks = [...]string{
	"&&", "||", "==", "!=", "<=", ">=",
	"<", ">", "=", "+", "-", "*", "/", "%", "!",
	"(", ")", "{", "}", "[", "]", ",", ";", ":",
}

// words are those of the grammar, which are no names.
func words() map[string]kind {
	return map[string]kind{
		"fn": fixed, "int": fixed, "arr": fixed,
		"var": fixed, "return": fixed, "print": fixed,
		"if": fixed, "else": fixed, "while": fixed,
		"new": fixed, "len": fixed, "input": fixed,
	}
}

// cut cuts a text into tokens, with the end behind them. It throws what is wrong.
func cut(s string) []token {
	var l []token
	known := words()
	at := skip(s, 0)
	for at < len(s) {
		t := tokenAt(s, at, known)
		if len(l) == api.MaxTokens {
			panic(&api.At{Err: api.ErrLimit, Place: at})
		}
		l = append(l, t)
		at = skip(s, at+len(t.text))
	}
	return append(l, token{kind: end, at: len(s)})
}

// skip is where, from a place on, something stands that is not left out; the text's end, if nothing does.
func skip(s string, at int) int {
	for at < len(s) {
		switch s[at] {
		case ' ', '\t', '\n':
			at++
		case '#':
			line, _, _ := strings.Cut(s[at:], "\n")
			at += len(line)
		default:
			return at
		}
	}
	return at
}

// tokenAt is the token that begins at a place. It throws ErrForm, if none does.
func tokenAt(s string, at int, known map[string]kind) token {
	rest := s[at:]
	// Numbers are tried first, so that no word has a digit first.
	if text := run(rest, digits); text != "" {
		return token{kind: number, text: text, at: at}
	}
	if text := run(rest, letters+digits); text != "" {
		return token{kind: known[text], text: text, at: at}
	}
	for _, m := range marks {
		if strings.HasPrefix(rest, m) {
			return token{kind: fixed, text: m, at: at}
		}
	}
	panic(&api.At{Err: api.ErrForm, Place: at})
}

// run is how a text begins, as far as its bytes are of a set.
func run(s, set string) string {
	return s[:len(s)-len(strings.TrimLeft(s, set))]
}
