package lex_test

import (
	"fmt"
	"regexp"
	"slices"
	"strconv"
	"strings"
	"testing"

	"quayside/api"
	"quayside/lex"
)

// keyWords are all of the chapter.
var keyWords = strings.Fields("ALL AND AS ASC BETWEEN BY CASE DESC DISTINCT ELSE END EXCEPT EXISTS FALSE FROM GROUP HAVING IN INNER INTERSECT IS JOIN LEFT LIKE LIMIT NOT NULL OFFSET ON OR ORDER SELECT THEN TRUE UNION WHEN WHERE")

// signs are all that are told, the longer ones first.
var signs = strings.Fields("<> <= >= || ( ) , . * + - / % = < >")

func word(s string) api.Token { return api.Token{Kind: api.TokWord, Text: s} }

func key(s string) api.Token { return api.Token{Kind: api.TokKey, Text: s} }

func number(n int) api.Token { return api.Token{Kind: api.TokInt, N: n} }

func text(s string) api.Token { return api.Token{Kind: api.TokText, Text: s} }

func sign(s string) api.Token { return api.Token{Kind: api.TokSign, Text: s} }

// at is a token that begins there.
func at(k int, t api.Token) api.Token {
	t.At = k
	return t
}

// short is what is told of tokens that are not as they should be.
func short(l []api.Token) string { return fmt.Sprintf("%.400q", fmt.Sprint(l)) }

// lexes tells that these are a text's tokens, and behind them the end.
func lexes(t *testing.T, s string, want ...api.Token) {
	t.Helper()
	want = append(slices.Clip(want), api.Token{Kind: api.TokEnd, At: len(s)})
	if l, k, e := lex.Tokens(s); !slices.Equal(l, want) || k != 0 || e != api.OK {
		t.Errorf("Tokens(%.80q): %s, %d, error %d; want %s", s, short(l), k, e, short(want))
	}
}

// wrong tells that a text is wrong there.
func wrong(t *testing.T, s string, where int) {
	t.Helper()
	if l, k, e := lex.Tokens(s); len(l) != 0 || k != where || e != api.ErrLex {
		t.Errorf("Tokens(%.80q): %s, %d, error %d; want error %d at %d", s, short(l), k, e, api.ErrLex, where)
	}
}

// patterns are what may stand at a place: what is between tokens, and the tokens. A quote that stands behind a closing one makes one of both, so it is looked at too.
var patterns = regexp.MustCompile(`^(?s:` + strings.Join([]string{
	`(?P<between>[\t\n\r ]|--[^\n]*|/\*.*?\*/)`,
	`(?P<none>/\*)`,
	`(?P<word>[A-Za-z_][A-Za-z_0-9]*)`,
	`"(?P<name>(?:[^"]|"")+)"(?:[^"]|\z)`,
	`(?P<digits>[0-9]+)`,
	`'(?P<text>(?:[^']|'')*)'(?:[^']|\z)`,
	`(?P<sign><>|<=|>=|!=|\|\||[(),.*+\-/%=<>])`,
}, "|") + `)`)

// match is what a text begins with, by the patterns: its name, what of it counts, and how many bytes it has; no bytes, if it begins with none.
func match(s string) (kind, what string, size int) {
	found := patterns.FindStringSubmatchIndex(s)
	for k, name := range patterns.SubexpNames() {
		if name == "" || name == "none" || found == nil || found[2*k] < 0 {
			continue
		}
		from, to := found[2*k], found[2*k+1]
		return name, s[from:to], to + from
	}
	return "", "", 0
}

// plainToken is the token of a match; false, if it may not be.
func plainToken(kind, what string) (api.Token, bool) {
	switch kind {
	case "word":
		if slices.Contains(keyWords, strings.ToUpper(what)) {
			return key(strings.ToUpper(what)), true
		}
		return word(what), len(what) <= 64
	case "name":
		as := strings.ReplaceAll(what, `""`, `"`)
		return word(as), len(as) <= 64
	case "digits":
		n, err := strconv.Atoi(what)
		return number(n), err == nil && strconv.Itoa(n) == what
	case "text":
		as := strings.ReplaceAll(what, `''`, `'`)
		return text(as), len(as) <= 64
	}
	return sign(strings.ReplaceAll(what, "!=", "<>")), kind == "sign"
}

// plainTokens are those of a text by the patterns.
func plainTokens(s string) ([]api.Token, int, api.Errno) {
	if len(s) > 4096 {
		return nil, 0, api.ErrFull
	}
	var l []api.Token
	for k := 0; k < len(s); {
		kind, what, size := match(s[k:])
		if kind != "between" {
			t, ok := plainToken(kind, what)
			if !ok {
				return nil, k, api.ErrLex
			}
			l = append(l, at(k, t))
		}
		k += size
	}
	return append(l, api.Token{At: len(s)}), 0, api.OK
}

// agrees tells that a text's tokens are those by the patterns; it answers the error.
func agrees(t *testing.T, s string) api.Errno {
	t.Helper()
	l, k, e := lex.Tokens(s)
	want, where, err := plainTokens(s)
	if !slices.Equal(l, want) || k != where || e != err {
		t.Errorf("Tokens(%.200q): %s, %d, error %d; want %s, %d, error %d", s, short(l), k, e, short(want), where, err)
	}
	return e
}

// dice are numbers that look like any, the same ones each time.
type dice uint64

func (x *dice) below(n int) int {
	*x ^= *x << 13
	*x ^= *x >> 7
	*x ^= *x << 17
	return int(uint64(*x) >> 20 % uint64(n))
}

func (x *dice) of(l []string) string { return l[x.below(len(l))] }

// bytes are some of any kind, quotes more often than others.
func (x *dice) bytes(least, most int) string {
	var l []byte
	for range least + x.below(most-least+1) {
		if x.below(4) == 0 {
			l = append(l, `'"`[x.below(2)])
		} else {
			l = append(l, byte(x.below(256)))
		}
	}
	return string(l)
}

// name is one that needs no quotes, unless it is a key word in letters of any size.
func (x *dice) name() string {
	const letters = "abzABZ_0129"
	l := []byte{letters[x.below(7)]}
	for range x.below([]int{2, 4, 64}[x.below(3)]) {
		l = append(l, letters[x.below(len(letters))])
	}
	return string(l)
}

// mixed is a text with some of its letters small.
func (x *dice) mixed(s string) string {
	l := []byte(s)
	for k := range l {
		if x.below(2) == 0 {
			l[k] |= 0x20
		}
	}
	return string(l)
}

// token is one that may come of a text.
func (x *dice) token() api.Token {
	switch x.below(8) {
	case 0:
		return key(x.of(keyWords))
	case 1:
		return word(x.name())
	case 2:
		return word(x.mixed(x.of(keyWords)))
	case 3:
		return word(x.bytes(1, 64))
	case 4:
		return number(int(uint64(x.below(1<<40))<<23|7) >> x.below(63))
	case 5:
		return text(x.bytes(0, 64))
	}
	return sign(x.of(signs))
}
