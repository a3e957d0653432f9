package lex_test

import (
	"slices"
	"strings"
	"testing"

	"quayside/api"
	"quayside/lex"
)

func isKey(t *testing.T, s string, want bool) {
	t.Helper()
	if lex.Key(s) != want {
		t.Errorf("Key(%.80q): %v", s, !want)
	}
}

func isWord(t *testing.T, s string, want bool) {
	t.Helper()
	if lex.Word(s) != want {
		t.Errorf("Word(%.80q): %v", s, !want)
	}
}

func puts(t *testing.T, of api.Token, want string) {
	t.Helper()
	if s := lex.Put(of); s != want {
		t.Errorf("Put(%v): %.200q; want %.200q", of, s, want)
	}
}

// TestLx2Key: just the key words are, and in capitals alone.
func TestLx2Key(t *testing.T) {
	for _, w := range keyWords {
		for _, s := range mixes(w) {
			isKey(t, s, s == w)
			isWord(t, s, false)
		}
		for _, s := range []string{w + "_", "_" + w, w + "1", w + "x", w + "X", w + w} {
			isKey(t, s, false)
			isWord(t, s, true)
		}
		for _, s := range []string{w + " ", " " + w, w + "\x00", "\x00" + w, w + "\n", `"` + w + `"`, "'" + w + "'", w + "--", w + "\xff", w + " " + w} {
			isKey(t, s, false)
			isWord(t, s, false)
		}
		for k := range w {
			if part := w[:k]; !slices.Contains(keyWords, part) {
				isKey(t, part, false)
				isWord(t, part, part != "")
			}
		}
	}
	for _, s := range []string{"", " ", "_", "1", "a", "A", "COUNT", "SUM", "MIN", "MAX", "ABS", "OUTER", "CROSS", "RIGHT", "SET", "<>", "\x00", "\xff", "LI\u212aE", "\u0130S", strings.Repeat("A", 64), strings.Repeat("AND", 1<<16)} {
		isKey(t, s, false)
	}
}

func TestLx2Word(t *testing.T) {
	l := strings.Repeat("abcdefg_", 9)
	for _, s := range []string{"a", "z", "A", "Z", "_", "__", "_1", "a9", "aZ09_", "Sku", "on_hand", "count", "COUNT", "selects", l[:63], l[:64], strings.Repeat("_", 64), strings.Repeat("SELECT", 10)} {
		isWord(t, s, true)
	}
	for _, s := range []string{"", "1", "9a", "0", "select", "Select", " a", "a ", "a b", "a\n", "\ta", "a.b", "a-b", "a--", "a/**/", "/**/a", "--\na", "*", "<>", `"a"`, `""`, `"`, `a"`, `"a`, "'a'", "a'", "(a)", "a\x00", "\x00", "\xff", "a\xff", "\u00e9", "a\u00e9", "\u00e9a", "\uff41", "a\u0301", "\u017felect", "LI\u212aE", "\u0130n",
		l[:65], l, strings.Repeat("_", 65), strings.Repeat("SELECT", 11), strings.Repeat("a", 1<<20), strings.Repeat("\u00e9", 32)} {
		isWord(t, s, false)
	}
}

// TestLx2Bytes: of each byte, alone and behind a letter, Word says what stands in the chapter.
func TestLx2Bytes(t *testing.T) {
	for b := range 256 {
		s := string([]byte{byte(b)})
		digit := b >= '0' && b <= '9'
		letter := b == '_' || b >= 'a' && b <= 'z' || b >= 'A' && b <= 'Z'
		isWord(t, s, letter)
		isWord(t, "x"+s, letter || digit)
		isWord(t, "x"+s+"x", letter || digit)
		isKey(t, s, false)
	}
}

// TestLx2WordTokens: Word says so of just those texts of which the whole is their one token.
func TestLx2WordTokens(t *testing.T) {
	x := dice(16)
	words := 0
	for range 20000 {
		s := []string{x.name(), x.mixed(x.of(keyWords)), x.name() + x.bytes(0, 1), x.bytes(0, 3), `"` + x.name() + `"`}[x.below(5)]
		l, _, e := lex.Tokens(s)
		is := e == api.OK && len(l) == 2 && l[0] == word(s)
		isWord(t, s, is)
		if is {
			words++
		}
	}
	if words < 5000 || words > 15000 {
		t.Errorf("%d of 20000 are words", words)
	}
}

// TestLx2Put: a token of each kind as text.
func TestLx2Put(t *testing.T) {
	for _, w := range keyWords {
		puts(t, key(w), w)
		puts(t, word(w), `"`+w+`"`)
		puts(t, word(strings.ToLower(w)), `"`+strings.ToLower(w)+`"`)
		puts(t, text(w), "'"+w+"'")
	}
	for _, s := range signs {
		puts(t, sign(s), s)
		puts(t, word(s), `"`+s+`"`)
		puts(t, text(s), "'"+s+"'")
	}
	for n, want := range map[int]string{0: "0", 7: "7", 10: "10", api.MaxInt: "9223372036854775807", -1: "-1", api.MinInt: "-9223372036854775808"} {
		puts(t, number(n), want)
	}
	puts(t, api.Token{}, "")
	puts(t, at(77, api.Token{Text: "SELECT", N: 5}), "")
	puts(t, at(7, number(7)), "7")
	puts(t, api.Token{Kind: api.TokInt, Text: "8", N: 7, At: 9}, "7")
	puts(t, api.Token{Kind: api.TokWord, Text: "a", N: 7, At: 9}, "a")
	puts(t, api.Token{Kind: api.TokText, Text: "a", N: 7, At: 9}, "'a'")
	puts(t, api.Token{Kind: api.TokKey, Text: "AND", N: 7, At: 9}, "AND")
	puts(t, api.Token{Kind: api.TokSign, Text: "<", N: 7, At: 9}, "<")
	for _, kind := range []int{-1, 6, 7, 256, 257, api.MinInt, api.MaxInt} {
		puts(t, api.Token{Kind: kind, Text: "a", N: 1}, "")
	}
}

// TestLx2PutName: a name stands between quotes, if it would be none without.
func TestLx2PutName(t *testing.T) {
	l := strings.Repeat("abcdefg_", 9)
	for _, s := range []string{"a", "A", "_", "_1", "Sku", "on_hand", "selects", l[:64]} {
		puts(t, word(s), s)
	}
	for s, want := range map[string]string{
		"": `""`, " ": `" "`, "1": `"1"`, "9a": `"9a"`, "a b": `"a b"`, "a.b": `"a.b"`, "a-b": `"a-b"`, "a\n": "\"a\n\"", "\x00": "\"\x00\"", "\xff": "\"\xff\"", "\u00e9": "\"\u00e9\"", "it's": `"it's"`, "*": `"*"`,
		`"`: `""""`, `""`: `""""""`, `a"b`: `"a""b"`, `"a"`: `"""a"""`, "'": `"'"`, "--": `"--"`, "/*": `"/*"`, "select": `"select"`, "From": `"From"`, "NULL": `"NULL"`,
		l[:65]: `"` + l[:65] + `"`, strings.Repeat(`"`, 64): `"` + strings.Repeat(`"`, 128) + `"`,
	} {
		puts(t, word(s), want)
	}
}

// TestLx2PutText: a text is put as layer 5 shows it, which is null, where it may be no value.
func TestLx2PutText(t *testing.T) {
	for s, want := range map[string]string{
		"": "''", "a": "'a'", " ": "' '", "it's": "'it''s'", "'": "''''", "''": "''''''", "'a'": "'''a'''", `"`: `'"'`, "\x00\xff": "'\x00\xff'", "\u00e9": "'\u00e9'", "a\nb": "'a\nb'", "--": "'--'", "SELECT": "'SELECT'", "7": "'7'",
		strings.Repeat("x", 64): "'" + strings.Repeat("x", 64) + "'", strings.Repeat("'", 64): "'" + strings.Repeat("'", 128) + "'", strings.Repeat("x", 65): "null",
	} {
		puts(t, text(s), want)
	}
}
