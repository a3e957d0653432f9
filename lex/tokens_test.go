package lex_test

import (
	"slices"
	"strings"
	"testing"

	"quayside/api"
	"quayside/lex"
)

// TestExample is that of the chapter.
func TestExample(t *testing.T) {
	lexes(t, "a.b >= 3", at(0, word("a")), at(1, sign(".")), at(2, word("b")), at(4, sign(">=")), at(7, number(3)))
}

// TestLx1Query is an ordinary one, with a token of each kind.
func TestLx1Query(t *testing.T) {
	lexes(t, "Select sku, \"on\"\"hand\" AS n -- all\nFROM stock where loc<>'x''y' AND held!=7 /* no nought */",
		at(0, key("SELECT")), at(7, word("sku")), at(10, sign(",")), at(12, word("on\"hand")), at(23, key("AS")), at(26, word("n")),
		at(35, key("FROM")), at(40, word("stock")), at(46, key("WHERE")), at(52, word("loc")), at(55, sign("<>")), at(57, text("x'y")), at(64, key("AND")), at(68, word("held")), at(72, sign("<>")), at(74, number(7)))
	wrong(t, "Select sku, \"on\"\"hand\" AS n -- all\nFROM stock where loc<>'x''y' AND held!=007 /* a nought */", 74)
}

// TestLx1Size: a text has at most 4096 bytes, whatever they are.
func TestLx1Size(t *testing.T) {
	lexes(t, "")
	var names []api.Token
	for k := range 2048 {
		names = append(names, at(2*k, word("a")))
	}
	var open []api.Token
	for k := range 4096 {
		open = append(open, at(k, sign("(")))
	}
	lexes(t, strings.Repeat("a ", 2048), names...)
	lexes(t, strings.Repeat("(", 4096), open...)
	lexes(t, strings.Repeat(" ", 4095))
	lexes(t, strings.Repeat(" ", 4096))
	lexes(t, strings.Repeat(" ", 4095)+"1", at(4095, number(1)))
	lexes(t, "--"+strings.Repeat("\u00e9", 2047))
	lexes(t, "/*"+strings.Repeat("\xff", 4092)+"*/")
	wrong(t, strings.Repeat("a ", 2047)+" ;", 4095)
	wrong(t, strings.Repeat("\u00e9", 2048), 0)
	for _, s := range []string{
		strings.Repeat("a ", 2048) + " ", strings.Repeat("(", 4097), strings.Repeat(" ", 4097), ";" + strings.Repeat(" ", 4096), strings.Repeat("a ", 2048) + ";",
		"--" + strings.Repeat("-", 4095), "/*" + strings.Repeat("*", 4093) + "*/", "'" + strings.Repeat("'", 4096), strings.Repeat("a", 4097), strings.Repeat("\u00e9", 2049), strings.Repeat("(", 1<<20),
	} {
		if l, k, e := lex.Tokens(s); len(l) != 0 || k != 0 || e != api.ErrFull {
			t.Errorf("Tokens(%.20q) of %d bytes: %s, %d, error %d", s, len(s), short(l), k, e)
		}
	}
}

// mixes are all ways of writing a text's letters great and small.
func mixes(s string) []string {
	l := []string{""}
	for k := range len(s) {
		for _, have := range slices.Clone(l) {
			l = append(l, have+strings.ToLower(s[k:k+1]))
		}
		for m := range len(l) / 2 {
			l[m] += s[k : k+1]
		}
	}
	return l
}

// TestLx1Key: key words are told in capitals, in letters of any size; what has a letter more is none.
func TestLx1Key(t *testing.T) {
	for _, w := range keyWords {
		l := mixes(w)
		if len(l) != 1<<len(w) || !slices.Contains(l, w) || !slices.Contains(l, strings.ToLower(w)) {
			t.Fatalf("%s is written in %d ways", w, len(l))
		}
		for _, s := range l {
			lexes(t, s, key(w))
		}
		lexes(t, "("+w+")"+w, sign("("), at(1, key(w)), at(1+len(w), sign(")")), at(2+len(w), key(w)))
		lexes(t, w+"'"+w+"'", key(w), at(len(w), text(w)))
		lexes(t, "7"+w, number(7), at(1, key(w)))
		lexes(t, w+"_", word(w+"_"))
		lexes(t, "_"+w, word("_"+w))
		lexes(t, w+"1", word(w+"1"))
		lexes(t, w+"x", word(w+"x"))
		lexes(t, "x"+strings.ToLower(w), word("x"+strings.ToLower(w)))
		lexes(t, `"`+w+`"`, word(w))
		lexes(t, `"`+strings.ToLower(w)+`"`, word(strings.ToLower(w)))
	}
	for _, s := range []string{"count", "SUM", "min", "max", "abs", "outer", "cross", "right", "with", "values", "x", "SELEC", "ELECT", "sku", "stock"} {
		lexes(t, s, word(s))
	}
}

// TestLx1Letters: no others are letters, of which the library makes great or small ones that are.
func TestLx1Letters(t *testing.T) {
	wrong(t, "LI\u212aE", 2)
	wrong(t, "li\u212ae", 2)
	wrong(t, "\u017felect", 0)
	wrong(t, "i\u017f", 1)
	wrong(t, "\u0130n", 0)
	wrong(t, "\u0131n", 0)
	wrong(t, "na\u00efve", 2)
	wrong(t, "a\u0301", 1)
	wrong(t, "\u00aa", 0)
	wrong(t, "\u0391", 0)
	wrong(t, "\uff21", 0)
	wrong(t, "a \u3042", 2)
}

func TestLx1Name(t *testing.T) {
	l := strings.Repeat("abcdefg_", 9)
	for _, s := range []string{"a", "z", "A", "Z", "_", "__", "a0", "_9", "aZ", "Sku", "on_hand", "x_1", "e5", l[:63], l[:64], strings.Repeat("_", 64), "a" + strings.Repeat("0", 63)} {
		lexes(t, s, word(s))
		lexes(t, " "+s+"\n", at(1, word(s)))
		lexes(t, s+"."+s, word(s), at(len(s), sign(".")), at(len(s)+1, word(s)))
	}
	for _, s := range []string{l[:65], l, strings.Repeat("_", 65), "a" + strings.Repeat("0", 64), strings.Repeat("SELECT", 11), strings.Repeat("a", 4096)} {
		wrong(t, s, 0)
	}
	wrong(t, "a b "+l[:65]+" c", 4)
	lexes(t, l[:64]+"-"+l[:64], word(l[:64]), at(64, sign("-")), at(65, word(l[:64])))
}

// allBytes are those from 0 to 255, but for one.
func allBytes(but byte) string {
	var l []byte
	for b := range 256 {
		if byte(b) != but {
			l = append(l, byte(b))
		}
	}
	return string(l)
}

// TestLx1Quoted: a name between quotes has 1 to 64 bytes, a text up to 64, of two quotes one counts.
func TestLx1Quoted(t *testing.T) {
	for _, mark := range []string{`"`, `'`} {
		quoted := func(s string) string { return mark + s + mark }
		of := word
		if mark == "'" {
			of = text
		}
		all := allBytes(mark[0])
		for k := range 4 {
			lexes(t, quoted(all[k*63:k*63+63]), of(all[k*63:k*63+63]))
		}
		for _, s := range []string{"a", "A", " ", "\n", "\x00", "\xff", "9", "a b", "a\nb\r\n", "--", "-- x", "/*", "/* x */", "\u00e9", "\u00e9\xc3", "\xc3", "select", "SELECT", `\`, `\n`, "<>", all[:64], strings.Repeat("\xff", 64), strings.Repeat("\u00e9", 32)} {
			lexes(t, quoted(s), of(s))
			lexes(t, "a."+quoted(s)+"="+quoted(s), word("a"), at(1, sign(".")), at(2, of(s)), at(4+len(s), sign("=")), at(5+len(s), of(s)))
		}
		two := mark + mark
		lexes(t, quoted(two), of(mark))
		lexes(t, quoted(two+two), of(two))
		lexes(t, quoted("a"+two+"b"), of("a"+mark+"b"))
		lexes(t, quoted(two+"a"+two), of(quoted("a")))
		lexes(t, quoted("a"+two+two+"b"+two), of("a"+two+"b"+mark))
		lexes(t, quoted("a")+" "+quoted("b"), of("a"), at(4, of("b")))
		lexes(t, quoted("a")+"/**/"+quoted("b"), of("a"), at(7, of("b")))
		x := strings.Repeat("x", 62)
		lexes(t, quoted(x+"x"+two), of(x+"x"+mark))
		lexes(t, quoted(x+two+"x"), of(x+mark+"x"))
		lexes(t, quoted(strings.Repeat(two, 64)), of(strings.Repeat(mark, 64)))
		wrong(t, quoted(x+"xxx"), 0)
		wrong(t, quoted(x+"xx"+two), 0)
		wrong(t, quoted(x+two+"xx"), 0)
		wrong(t, quoted(strings.Repeat(two, 65)), 0)
		wrong(t, quoted(strings.Repeat("\u00e9", 33)), 0)
		wrong(t, "a, "+quoted(x+"xxx")+", b", 3)
		wrong(t, quoted(strings.Repeat("x", 4094)), 0)
	}
	wrong(t, `""`, 0)
	wrong(t, `a,"" `, 2)
	wrong(t, `"a" "" 'x'`, 4)
	lexes(t, `''`, text(""))
	lexes(t, `a,''`, word("a"), at(1, sign(",")), at(2, text("")))
	lexes(t, `'' '' ''''`, text(""), at(3, text("")), at(6, text("'")))
	lexes(t, `"'"'"'`, word("'"), at(3, text(`"`)))
	lexes(t, `"''"'""'`, word("''"), at(4, text(`""`)))
	lexes(t, `'it''s'`, text("it's"))
}

// TestLx1Unended: of a name or a text that does not end the beginning is told, though a part of it could end at the first of two quotes.
func TestLx1Unended(t *testing.T) {
	for _, mark := range []string{`"`, `'`} {
		two := mark + mark
		for _, s := range []string{"", "a", "a b", "\xff", "\n", two, two + two, "a" + two, two + "a", "a" + two + "b", "--", "/* */", strings.Repeat("x", 64), strings.Repeat("x", 65), strings.Repeat(two, 64)} {
			wrong(t, mark+s, 0)
			wrong(t, "a "+mark+s, 2)
			wrong(t, mark+"x"+mark+" "+mark+s, 4)
		}
	}
	wrong(t, `"a'`, 0)
	wrong(t, `'a"`, 0)
	wrong(t, `'a'"`, 3)
}

func TestLx1Digits(t *testing.T) {
	lexes(t, "0", number(0))
	lexes(t, "7", number(7))
	lexes(t, "10", number(10))
	lexes(t, "9223372036854775806", number(api.MaxInt-1))
	lexes(t, "9223372036854775807", number(api.MaxInt))
	lexes(t, "1000000000000000000", number(1e18))
	lexes(t, "0 0", number(0), at(2, number(0)))
	lexes(t, "12ab", number(12), at(2, word("ab")))
	lexes(t, "0x10", number(0), at(1, word("x10")))
	lexes(t, "1_000", number(1), at(1, word("_000")))
	lexes(t, "1e3", number(1), at(1, word("e3")))
	lexes(t, "1.5", number(1), at(1, sign(".")), at(2, number(5)))
	lexes(t, ".5", sign("."), at(1, number(5)))
	lexes(t, "5.", number(5), at(1, sign(".")))
	lexes(t, "1'2'3", number(1), at(1, text("2")), at(4, number(3)))
	lexes(t, "-7", sign("-"), at(1, number(7)))
	lexes(t, "-0", sign("-"), at(1, number(0)))
	lexes(t, "1-2", number(1), at(1, sign("-")), at(2, number(2)))
	for _, s := range []string{"00", "01", "007", "09223372036854775807", "9223372036854775808", "9223372036854775810", "9999999999999999999", "10000000000000000000", "18446744073709551615", "18446744073709551616", "18446744073709551617", "99999999999999999999", strings.Repeat("0", 64), strings.Repeat("1", 65), strings.Repeat("7", 4095)} {
		wrong(t, s, 0)
		wrong(t, s+" ", 0)
		wrong(t, s+"a", 0)
		wrong(t, "-"+s, 1)
	}
	wrong(t, "1.05", 2)
	wrong(t, "a 1 9223372036854775808 b", 4)
	wrong(t, "\u0661", 0)
	wrong(t, "1\u0661", 1)
	wrong(t, "1\uff12", 1)
	wrong(t, "\u00b2", 0)
}

// TestLx1Sign: each sign, alone and among others; where they stand together the longest counts.
func TestLx1Sign(t *testing.T) {
	for _, s := range signs {
		lexes(t, s, sign(s))
		lexes(t, s+" "+s, sign(s), at(len(s)+1, sign(s)))
		lexes(t, "a"+s+"1"+s+"'b'"+s+`"c"`, word("a"), at(1, sign(s)), at(1+len(s), number(1)), at(2+len(s), sign(s)), at(2+2*len(s), text("b")), at(5+2*len(s), sign(s)), at(5+3*len(s), word("c")))
	}
	lexes(t, "!=", sign("<>"))
	lexes(t, "a!=b", word("a"), at(1, sign("<>")), at(3, word("b")))
	lexes(t, "!==", sign("<>"), at(2, sign("=")))
	lexes(t, "!=!=", sign("<>"), at(2, sign("<>")))
	lexes(t, "<!=", sign("<"), at(1, sign("<>")))
	lexes(t, "<>=", sign("<>"), at(2, sign("=")))
	lexes(t, "<=>", sign("<="), at(2, sign(">")))
	lexes(t, "<=>=", sign("<="), at(2, sign(">=")))
	lexes(t, "<<=", sign("<"), at(1, sign("<=")))
	lexes(t, "<<>>", sign("<"), at(1, sign("<>")), at(3, sign(">")))
	lexes(t, ">>=", sign(">"), at(1, sign(">=")))
	lexes(t, "><", sign(">"), at(1, sign("<")))
	lexes(t, "=<", sign("="), at(1, sign("<")))
	lexes(t, "=>", sign("="), at(1, sign(">")))
	lexes(t, "==", sign("="), at(1, sign("=")))
	lexes(t, "< >", sign("<"), at(2, sign(">")))
	lexes(t, "<\n=", sign("<"), at(2, sign("=")))
	lexes(t, "</**/>", sign("<"), at(5, sign(">")))
	lexes(t, "||||", sign("||"), at(2, sign("||")))
	lexes(t, "(*)", sign("("), at(1, sign("*")), at(2, sign(")")))
	lexes(t, "+-", sign("+"), at(1, sign("-")))
	lexes(t, "*/", sign("*"), at(1, sign("/")))
	lexes(t, "//", sign("/"), at(1, sign("/")))
	lexes(t, "- -", sign("-"), at(2, sign("-")))
	lexes(t, "/ *", sign("/"), at(2, sign("*")))
	for s, where := range map[string]int{"!": 0, "a ! b": 2, "! =": 0, "!!=": 0, "!=!": 2, "!>": 0, "!<>": 0, "|": 0, "a|b": 1, "| |": 0, "|||": 2, "|=": 0, "=|": 1, "*/*": 1, "<!": 1} {
		wrong(t, s, where)
	}
}

// TestLx1SignPairs: of any two that stand together the first place is told right.
func TestLx1SignPairs(t *testing.T) {
	all := append(slices.Clone(signs), "!=", "!", "|", "a", "0", "'x'", `"x"`)
	for _, a := range all {
		for _, b := range all {
			agrees(t, a+b)
			for _, c := range all {
				agrees(t, a+b+c)
			}
		}
	}
}
