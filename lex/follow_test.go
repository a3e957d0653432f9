package lex_test

import (
	"slices"
	"strings"
	"testing"

	"quayside/api"
	"quayside/lex"
)

// between is what may stand between two tokens, whatever these are: a remark of two signs has a blank ahead, or it would begin at a sign that is there.
var between = []string{" ", "\t", "\n", "\r", "  ", "\r\n", " -- \n", " --x\n", " -- it's \"\n", "\n-- /*\n", "/**/", "/* */", "/***/", "/*x*/", "/* ' */", "/* \" */", "/*--*/", "/* /* */", "/*\n*/", " /* ; */ ", "/*a*/ --b\n/*c*/"}

// put is tokens as text, with something between any two, and where each of them begins then.
func put(l []api.Token, apart func() string) (string, []api.Token) {
	s := apart()
	var placed []api.Token
	for _, t := range l {
		placed = append(placed, at(len(s), t))
		s += lex.Put(t) + apart()
	}
	return s, placed
}

// TestLx3Each: any two tokens, with anything between, are told again.
func TestLx3Each(t *testing.T) {
	all := []api.Token{word("a"), word("select"), word("SELECT"), word(`a "b`), word("'"), word("--"), word("\xff"), key("SELECT"), key("IS"), number(0), number(api.MaxInt), text(""), text("it's"), text("'"), text("/*"), text("*/"), text("\x00\xff")}
	for _, s := range signs {
		all = append(all, sign(s))
	}
	for _, a := range all {
		for _, b := range all {
			for _, c := range between {
				s, want := put([]api.Token{a, b}, func() string { return c })
				lexes(t, s, want...)
			}
		}
	}
}

// TestLx3Put: tokens of all kinds that are put as text, with blanks between, and with blanks and remarks, are told again, and put again as they were.
func TestLx3Put(t *testing.T) {
	x := dice(4)
	for range 3000 {
		var l []api.Token
		for range x.below(20) {
			l = append(l, x.token())
		}
		s, want := put(l, func() string { return " " })
		lexes(t, s, want...)
		other, placed := put(l, func() string { return x.of(between) })
		lexes(t, other, placed...)
		again, _, _ := lex.Tokens(other)
		if back, _ := put(again[:len(again)-1], func() string { return " " }); back != s {
			t.Errorf("%.200q is %.200q when it is put again", s, back)
		}
	}
}

// pieces are of what texts are made that go over all ways of the chapter.
var pieces = append(strings.Fields(`a x_1 _ select From IN 0 7 07 10 9223372036854775807 9223372036854775808 "a" "a""b" "" "" 'a' 'it''s' '' ' ' " " < > = ! != <> <= >= | || ( ) , . * + - / % -- -- /* /* */ */ /**/ ; \`), " ", " ", " ", "\n", "\n", "\r", "\t", "\v", "\x00", "\xff", "\u00e9", "\u212a", strings.Repeat("w", 64), strings.Repeat("w", 65))

// TestLx3Any: texts of which tokens can be told are put, with blanks and remarks between, and told again; of all texts the tokens are those by the patterns.
func TestLx3Any(t *testing.T) {
	x := dice(99)
	right := 0
	for range 60000 {
		s := ""
		for range x.below(12) {
			s += x.of(pieces)
		}
		if agrees(t, s) != api.OK {
			continue
		}
		right++
		l, _, _ := lex.Tokens(s)
		other, placed := put(l[:len(l)-1], func() string { return x.of(between) })
		lexes(t, other, placed...)
	}
	if right < 10000 || right > 50000 {
		t.Errorf("%d of 60000 are right", right)
	}
}

// TestLx1Short: all texts of up to four bytes, of those that count, are told as by the patterns.
func TestLx1Short(t *testing.T) {
	texts := []string{""}
	for range 4 {
		var longer []string
		for _, s := range texts {
			agrees(t, s)
			for _, c := range []byte("aI1 0\n\"'-/*<=!|\xff") {
				longer = append(longer, s+string([]byte{c}))
			}
		}
		texts = longer
	}
	for _, s := range texts {
		agrees(t, s)
	}
}

// TestLx1Long: a long run of longer texts, some up to the bound and beyond, of any bytes, and of tokens with a byte changed, against the patterns.
func TestLx1Long(t *testing.T) {
	x := dice(2026)
	told := map[api.Errno]int{}
	for k := range 2000 {
		var s string
		switch k % 4 {
		case 0:
			s = x.bytes(0, 40)
		case 1, 2:
			var l []api.Token
			for range x.below(200) {
				l = append(l, x.token())
			}
			s, _ = put(l, func() string { return x.of(between) })
		case 3:
			for len(s) < 4090+x.below(12) {
				s += x.of([]string{"a ", "7 ", "<=", "'x ''y' ", "between ", "\"y\" ", "in "})
			}
		}
		if k%8 == 2 && s != "" {
			l := []byte(s)
			l[x.below(len(l))] = byte(x.below(256))
			s = string(l)
		}
		told[agrees(t, s)]++
	}
	if told[api.OK] < 500 || told[api.ErrLex] < 500 || told[api.ErrFull] < 150 {
		t.Errorf("of 2000 were told: %v", told)
	}
}

// TestLx3Apart: blanks and remarks, of whatever kind, do not change which tokens there are, nor does their place.
func TestLx3Apart(t *testing.T) {
	l := []api.Token{key("SELECT"), word("a"), sign("||"), text("b''c"), sign(","), sign("-"), number(5), key("FROM"), word("from"), word("x y"), sign("<>"), sign("*"), sign("/"), sign("*")}
	bare := func(s string) []api.Token {
		told, _, e := lex.Tokens(s)
		if e != api.OK {
			t.Errorf("%q: error %d", s, e)
			return nil
		}
		for k := range told {
			told[k].At = 0
		}
		return told
	}
	for _, a := range between {
		for _, b := range between {
			turn := 0
			s, _ := put(l, func() string {
				turn++
				return []string{a, b, a + b, b + b + a}[turn%4]
			})
			if got := bare(s); !slices.Equal(got, append(slices.Clip(l), api.Token{})) {
				t.Errorf("%q: %s", s, short(got))
			}
		}
	}
}
