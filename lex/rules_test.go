package lex_test

import (
	"fmt"
	"slices"
	"strings"
	"testing"
	"unsafe"

	"quayside/api"
	"quayside/lex"
)

// callAll is what every call of the layer answers at a text, and at tokens of it.
func callAll(s string) string {
	l, k, e := lex.Tokens(s)
	said := fmt.Sprint(l, k, e, lex.Key(s), lex.Word(s))
	for _, kind := range []int{api.TokEnd, api.TokWord, api.TokKey, api.TokInt, api.TokText, api.TokSign} {
		said += fmt.Sprintf(" %q", lex.Put(api.Token{Kind: kind, Text: s, N: len(s), At: -len(s)}))
	}
	return said
}

// oddTexts are what no caller should hand in, and what one may.
func oddTexts() []string {
	l := []string{"", "\x00", "\xff\xfe", "\xc3", "a\xc3", "'\xc3", "\"\xf0\x9f", "--\xf0", "/*\xf0", "SELECT a.b >= 3", "select", "'it''s'", "\"a\"\"b\"", "-", "--", "/", "/*", "/*/", "*/", "!", "!=", "|", "||", "'", "''", "'''", "\"", "\"\"", "\"\"\"", "007", "9223372036854775808", "\u212a", "a\u0301", ";"}
	for _, s := range []string{"a", "7", "0", "'", "\"", "-", "/", "*", "/*", "(", "<", "!", " ", "\n", "\x00", "\xff", "\u00e9", "' ", "\" ", "a ", "1a"} {
		for _, n := range []int{64, 65, 66, 4096, 4097} {
			l = append(l, strings.Repeat(s, n)[:n])
		}
	}
	return l
}

// TestR1: every call ends without a panic, at any texts and tokens.
func TestR1(t *testing.T) {
	defer func() {
		if r := recover(); r != nil {
			t.Error("panic:", r)
		}
	}()
	for _, s := range oddTexts() {
		callAll(s)
		callAll(strings.Repeat(s, 20))
	}
	for a := range 256 {
		for b := range 256 {
			callAll(string([]byte{byte(a), byte(b)}))
		}
	}
	for _, n := range []int{api.MinInt, api.MinInt + 1, -1, 0, 1, 6, 255, 256, api.MaxInt} {
		for _, s := range []string{"", "a", "\"", strings.Repeat("'", 1<<16)} {
			for _, kind := range []int{n, api.TokWord, api.TokKey, api.TokInt, api.TokText, api.TokSign} {
				lex.Put(api.Token{Kind: kind, Text: s, N: n, At: n})
			}
		}
	}
}

// TestR2: beside an error there are no tokens, though some could be told; beside ErrFull there is no place, though one is wrong; beside tokens there is no place.
func TestR2(t *testing.T) {
	told := map[api.Errno]int{}
	for _, s := range oddTexts() {
		for _, s := range []string{s, "a b " + s, s + " ;", "! " + s} {
			l, k, e := lex.Tokens(s)
			told[e]++
			if (e == api.OK) != (len(l) > 0) || e != api.ErrLex && k != 0 || k < 0 || k > len(s) {
				t.Errorf("Tokens(%.60q) of %d bytes: %s, %d, error %d", s, len(s), short(l), k, e)
			}
			for _, x := range l {
				if x.Kind != api.TokInt && x.N != 0 || (x.Kind == api.TokInt || x.Kind == api.TokEnd) && x.Text != "" {
					t.Errorf("Tokens(%.60q): %v", s, x)
				}
			}
		}
	}
	if len(told) != 3 || told[api.OK] == 0 || told[api.ErrLex] == 0 || told[api.ErrFull] == 0 {
		t.Errorf("told were: %v", told)
	}
}

// TestR3: what stands behind a text's end is not read; a list that was answered may be changed, and no other one is changed by it.
func TestR3(t *testing.T) {
	for _, x := range []struct {
		whole string
		size  int
		want  []api.Token
	}{
		{"ab", 1, []api.Token{word("a")}},
		{"12", 1, []api.Token{number(1)}},
		{"<=", 1, []api.Token{sign("<")}},
		{"1--1", 2, []api.Token{number(1), at(1, sign("-"))}},
		{"1/*1", 2, []api.Token{number(1), at(1, sign("/"))}},
		{"'a''", 3, []api.Token{text("a")}},
		{"\"a\"\"b\"", 3, []api.Token{word("a")}},
		{"INNER", 2, []api.Token{key("IN")}},
		{"a;", 1, []api.Token{word("a")}},
		{strings.Repeat("a", 65), 64, []api.Token{word(strings.Repeat("a", 64))}},
		{strings.Repeat(" ", 4097), 4096, nil},
	} {
		lexes(t, x.whole[:x.size], x.want...)
	}
	wrong(t, "a!="[:2], 1)
	wrong(t, "'a'"[:2], 0)
	wrong(t, "/**/"[:3], 0)
	isWord(t, "ab;"[:2], true)
	isKey(t, "INNER"[:2], true)
	s := "SELECT a, 7"
	first, _, _ := lex.Tokens(s)
	second, _, _ := lex.Tokens(s)
	was := slices.Clone(second)
	for k := range first {
		first[k] = sign("changed")
	}
	_ = append(first[:2], sign("more"))
	if !slices.Equal(second, was) {
		t.Errorf("another answer is %v now", second)
	}
	lexes(t, s, was[:len(was)-1]...)
}

// TestR3Kept: nothing of a text that was handed in is kept in an answer: its bytes may become others then.
func TestR3Kept(t *testing.T) {
	lent := func(s string) (string, func()) {
		l := []byte(s)
		return unsafe.String(&l[0], len(l)), func() { clear(l) }
	}
	s, spoil := lent("SELECT abc, \"d e\" from 'f g' WHERE \"h\"\"i\"<>'j''k'")
	l, _, _ := lex.Tokens(s)
	want := []api.Token{at(0, key("SELECT")), at(7, word("abc")), at(10, sign(",")), at(12, word("d e")), at(18, key("FROM")), at(23, text("f g")), at(29, key("WHERE")), at(35, word("h\"i")), at(41, sign("<>")), at(43, text("j'k")), {At: 49}}
	spoil()
	if !slices.Equal(l, want) {
		t.Errorf("the tokens are %s now", short(l))
	}
	for _, kind := range []int{api.TokWord, api.TokKey, api.TokText, api.TokSign} {
		s, spoil := lent("abc")
		put := lex.Put(api.Token{Kind: kind, Text: s})
		was := strings.Clone(put)
		spoil()
		if put != was {
			t.Errorf("of the kind %d %q was put, and is %q now", kind, was, put)
		}
	}
}

// TestR4: what is asked again is answered the same, whatever was asked between.
func TestR4(t *testing.T) {
	all := oddTexts()
	var first []string
	for _, s := range all {
		first = append(first, callAll(s))
	}
	for k, was := range slices.Backward(first) {
		if again := callAll(all[k]); again != was {
			t.Errorf("at %.80q: %.200s, then %.200s", all[k], was, again)
		}
	}
}
