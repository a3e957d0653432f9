package lex

import (
	"strings"

	"quayside/api"
	"quayside/num"
)

const (
	shortSigns  = "(),.*+-/%=<>"
	remarkBegin = "/*"
	remarkEnd   = "*/"
)

// run is how many bytes those letters have, from the first one on, that fit.
func run(s string, fits func(r rune) bool) int {
	for at, r := range s {
		if !fits(r) {
			return at
		}
	}
	return len(s)
}

// Only these letters count: what the library calls a letter, or the great one of a small one, are many more.
func isLetter(r rune) bool { return 'a' <= r && r <= 'z' || 'A' <= r && r <= 'Z' }

func isDigit(r rune) bool { return '0' <= r && r <= '9' }

func isBlank(r rune) bool { return r == '\t' || r == '\n' || r == '\r' || r == ' ' }

func beginsWord(r rune) bool { return isLetter(r) || r == '_' }

func inWord(r rune) bool { return beginsWord(r) || isDigit(r) }

// gap is how many bytes a text begins with that are no token's: some blanks, or one remark; none of a remark that does not end.
func gap(s string) int {
	if strings.HasPrefix(s, "--") {
		return run(s, func(r rune) bool { return r != '\n' })
	}
	if behind, is := strings.CutPrefix(s, remarkBegin); is {
		return remarkSize(behind)
	}
	return run(s, isBlank)
}

// remarkSize is how many bytes the whole remark has of which all but the beginning is given.
func remarkSize(behind string) int {
	size := strings.Index(behind, remarkEnd)
	if size < 0 {
		return 0
	}
	return len(remarkBegin) + size + len(remarkEnd)
}

// first is the token that a text begins with, and how many bytes it has there; no bytes, if no token begins it.
func first(s string) (api.Token, int) {
	switch lead := rune(s[0]); {
	case beginsWord(lead):
		return word(s)
	case lead == '"':
		return name(s)
	case isDigit(lead):
		return digits(s)
	case lead == '\'':
		return text(s)
	}
	return sign(s)
}

func word(s string) (api.Token, int) {
	size := run(s, inWord)
	if size > api.MaxText {
		return api.Token{}, 0
	}
	as := strings.Clone(s[:size])
	if great := strings.ToUpper(as); Key(great) {
		return api.Token{Kind: api.TokKey, Text: great}, size
	}
	return api.Token{Kind: api.TokWord, Text: as}, size
}

func name(s string) (api.Token, int) {
	as, size := quoted(s)
	if as == "" || len(as) > api.MaxText {
		return api.Token{}, 0
	}
	return api.Token{Kind: api.TokWord, Text: as}, size
}

func digits(s string) (api.Token, int) {
	size := run(s, isDigit)
	n, e := num.Read(s[:size])
	if e != api.OK {
		return api.Token{}, 0
	}
	return api.Token{Kind: api.TokInt, N: n}, size
}

func text(s string) (api.Token, int) {
	as, size := quoted(s)
	if size == 0 || len(as) > api.MaxText {
		return api.Token{}, 0
	}
	return api.Token{Kind: api.TokText, Text: as}, size
}

// quoted is what stands between the mark that a text begins with and the one that ends it, and how many bytes it has with both; no bytes, if none ends it.
func quoted(s string) (string, int) {
	mark := s[:1]
	// Each mark turns it, so that of two in place of one the first seems to end it, and the second to begin it again.
	open := false
	size := run(s, func(r rune) bool {
		if r == rune(mark[0]) {
			open = !open
			return true
		}
		return open
	})
	if open {
		return "", 0
	}
	return strings.Clone(strings.ReplaceAll(s[1:size-1], mark+mark, mark)), size
}

func sign(s string) (api.Token, int) {
	size := signSize(s)
	if size == 0 {
		return api.Token{}, 0
	}
	as := strings.Clone(s[:size])
	if as == "!=" {
		as = "<>"
	}
	return api.Token{Kind: api.TokSign, Text: as}, size
}

// signSize is how many bytes the longest sign has that a text begins with.
func signSize(s string) int {
	switch s[:min(2, len(s))] {
	case "<>", "<=", ">=", "!=", "||":
		return 2
	case remarkBegin:
		return 0
	}
	if strings.Contains(shortSigns, s[:1]) {
		return 1
	}
	return 0
}
