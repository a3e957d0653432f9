package lex_test

import (
	"strings"
	"testing"
)

// TestLx1Blank: each of the four, ahead of tokens, between and behind; no other one.
func TestLx1Blank(t *testing.T) {
	for _, b := range []string{"\t", "\n", "\r", " ", "  ", "\r\n", "\t\n\r ", "\n\n\n"} {
		n := len(b)
		lexes(t, b)
		lexes(t, b+"a", at(n, word("a")))
		lexes(t, "a"+b, word("a"))
		lexes(t, "a"+b+"b", word("a"), at(1+n, word("b")))
		lexes(t, "1"+b+"2", number(1), at(1+n, number(2)))
		lexes(t, "<"+b+"="+b, sign("<"), at(1+n, sign("=")))
		lexes(t, "'a'"+b+"'b'", text("a"), at(3+n, text("b")))
		lexes(t, b+"NOT"+b+"x", at(n, key("NOT")), at(3+2*n, word("x")))
	}
	for _, s := range []string{"\v", "\f", "\x00", "\b", "\x1f", "\x7f", "\x85", "\xa0", "\u00a0", "\u0085", "\u2003", "\u2028", "\u3000", "\ufeff", "\\n", "\\"} {
		wrong(t, s, 0)
		wrong(t, s+"a", 0)
		wrong(t, "a"+s+"b", 1)
		wrong(t, " a "+s, 3)
	}
}

// TestLx1Line: a remark of two signs goes up to the end of the line, or of the text.
func TestLx1Line(t *testing.T) {
	for _, r := range []string{"--", "-- ", "--x", "---", "----", "-- it's", "-- \"", "-- ;!|", "-- /*", "-- */", "-- /* */", "-- --", "--\x00\xff", "--\r", "-- a\rb", "--\v", "--\u2028b", "--\u0085b", "--\xff", "-- \u00e9\xc3"} {
		n := len(r)
		lexes(t, r)
		lexes(t, r+"\n")
		lexes(t, "a"+r, word("a"))
		lexes(t, "a "+r+"\n", word("a"))
		lexes(t, r+"\nb", at(n+1, word("b")))
		lexes(t, "a"+r+"\nb", word("a"), at(n+2, word("b")))
		lexes(t, "1"+r+"\n2"+r+"\n\n"+r, number(1), at(n+2, number(2)))
		lexes(t, "<"+r+"\n>", sign("<"), at(n+2, sign(">")))
		wrong(t, r+"\n;", n+1)
	}
	lexes(t, "1--1", number(1))
	lexes(t, "1- -1", number(1), at(1, sign("-")), at(3, sign("-")), at(4, number(1)))
	lexes(t, "a -- b\n-- c\n--\nd -- e", word("a"), at(15, word("d")))
}

// TestLx1Block: one of a stroke and a star goes up to the next star and stroke; none is within another one.
func TestLx1Block(t *testing.T) {
	for _, r := range []string{"/**/", "/* */", "/*x*/", "/***/", "/****/", "/*/*/", "/*//*/", "/* * / */", "/* /* */", "/* /* /* */", "/* -- */", "/*--*/", "/*\n*/", "/* a\nb\r\nc */", "/* it's */", "/* \" */", "/*;!|*/", "/*\x00\xff*/", "/*\u00e9\xc3*/", "/**/ /**/", "/*a*//*b*/", "/**/--\n/**/"} {
		n := len(r)
		lexes(t, r)
		lexes(t, r+"a", at(n, word("a")))
		lexes(t, "a"+r, word("a"))
		lexes(t, "a"+r+"b", word("a"), at(n+1, word("b")))
		lexes(t, "1"+r+"2", number(1), at(n+1, number(2)))
		lexes(t, "<"+r+"="+r, sign("<"), at(n+1, sign("=")))
		lexes(t, "'a'"+r+"'b'", text("a"), at(n+3, text("b")))
		lexes(t, r+"SELECT"+r+r+"x", at(n, key("SELECT")), at(6+3*n, word("x")))
		wrong(t, r+";", n)
	}
	lexes(t, "/* a */ b /* c */", at(8, word("b")))
	lexes(t, "/* /* */ b */", at(9, word("b")), at(11, sign("*")), at(12, sign("/")))
	lexes(t, "-- /*\nb -- */", at(6, word("b")))
	lexes(t, "/* -- */ b", at(9, word("b")))
	lexes(t, "/* ' */ b /* ' */", at(8, word("b")))
	lexes(t, "'/*' b '*/'", text("/*"), at(5, word("b")), at(7, text("*/")))
	lexes(t, "'--' b", text("--"), at(5, word("b")))
	lexes(t, "//**/a", sign("/"), at(5, word("a")))
	lexes(t, "*/**/a", sign("*"), at(5, word("a")))
	lexes(t, "/"+"-- */\n"+"*", sign("/"), at(7, sign("*")))
}

// TestLx1BlockUnended: of one that does not end the beginning is told, whatever is behind.
func TestLx1BlockUnended(t *testing.T) {
	for _, r := range []string{"/*", "/* ", "/*/", "/**", "/***", "/* x", "/* * /", "/*\n", "/* a b ; 'c", "/* /*", "/*--", "/*-- *\n/", "/*\xff", "/*" + strings.Repeat("*", 1000)} {
		wrong(t, r, 0)
		wrong(t, " "+r, 1)
		wrong(t, "a"+r, 1)
		wrong(t, "a /* x */"+r, 9)
		wrong(t, "-- /* \n"+r, 7)
	}
	wrong(t, "/* a */ b /* c", 10)
}

// noneAt are the bytes at which no token begins, and no remark or blank.
func noneAt() []string {
	var l []string
	for b := range 256 {
		s := string([]byte{byte(b)})
		if b > 127 || !strings.Contains("abcdefghijklmnopqrstuvwxyzABCDEFGHIJKLMNOPQRSTUVWXYZ_0123456789\"'<>=|(),.*+-/%\t\n\r ", s) || s == "|" {
			l = append(l, s)
		}
	}
	return l
}

// TestLx1None: of each byte at which no token begins the place is told, ahead of tokens, between and behind.
func TestLx1None(t *testing.T) {
	l := noneAt()
	if len(l) != 128+29+18 {
		t.Fatalf("there are %d such bytes", len(l))
	}
	for _, s := range l {
		wrong(t, s, 0)
		wrong(t, s+" a", 0)
		wrong(t, s+"a", 0)
		wrong(t, "a"+s, 1)
		wrong(t, "a "+s, 2)
		wrong(t, "a"+s+"b", 1)
		wrong(t, "a "+s+" b", 2)
		wrong(t, "12"+s, 2)
		wrong(t, "<"+s, 1)
		wrong(t, "'x'"+s+"'y'", 3)
		wrong(t, "\"x\""+s, 3)
		wrong(t, "/* x */"+s, 7)
		wrong(t, "-- x\n"+s, 5)
		wrong(t, s+" "+s, 0)
		lexes(t, "'"+s+"'\""+s+"\"/*"+s+"*/--"+s, text(s), at(3, word(s)))
	}
}

// TestLx1First: where several things are wrong, the first one is told, at its own beginning.
func TestLx1First(t *testing.T) {
	long := strings.Repeat("a", 65)
	whole := []string{"!", "|", ";", "\x00", "\xff", "\u00e9", "007", "9223372036854775808", long, `""`, `"` + long + `"`, `'` + long + `'`}
	unended := []string{`"a`, `'a`, `"a""`, `'a''`, "/*", "/* a"}
	good := []string{"", " ", "a ", "SELECT 'it''s' ", "1 <> ", "(", "\"a\"\"b\".", "-- ;\n", "/* ; */", "'' "}
	for _, ahead := range good {
		for _, a := range whole {
			for _, b := range append(unended, whole...) {
				wrong(t, ahead+a, len(ahead))
				wrong(t, ahead+b, len(ahead))
				wrong(t, ahead+b+" ", len(ahead))
				wrong(t, ahead+a+" "+b, len(ahead))
				wrong(t, ahead+a+" x\n "+b+" y", len(ahead))
			}
		}
		for _, a := range unended {
			wrong(t, ahead+a+" ; !", len(ahead))
			wrong(t, ahead+a+" 007 "+long, len(ahead))
		}
	}
}
