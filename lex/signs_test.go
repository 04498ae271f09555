package lex

import (
	"slices"
	"strings"
	"testing"

	"understudy/api"
)

// allSigns are the chapter's punctuators, in its order.
func allSigns() []string {
	return strings.Fields("=== !== && || <= >= { } ( ) [ ] ; , . ? : = < > + - * / % !")
}

func TestSignsAlone(t *testing.T) {
	if len(allSigns()) != 26 {
		t.Fatalf("%d punctuators", len(allSigns()))
	}
	for _, s := range allSigns() {
		reads(t, s, punct(0, s))
		reads(t, " "+s+" a", punct(1, s), name(2+len(s), "a"))
		reads(t, "a"+s+"1", name(0, "a"), punct(1, s), number(1+len(s), 1))
		reads(t, "'"+s+"'", text(0, s))
	}
}

func TestLongestSign(t *testing.T) {
	reads(t, "==", punct(0, "="), punct(1, "="))
	reads(t, "====", punct(0, "==="), punct(3, "="))
	reads(t, "======", punct(0, "==="), punct(3, "==="))
	reads(t, "!=", punct(0, "!"), punct(1, "="))
	reads(t, "!!==", punct(0, "!"), punct(1, "!=="))
	reads(t, "!===", punct(0, "!=="), punct(3, "="))
	reads(t, "!====", punct(0, "!=="), punct(3, "="), punct(4, "="))
	reads(t, "<==", punct(0, "<="), punct(2, "="))
	reads(t, ">===", punct(0, ">="), punct(2, "="), punct(3, "="))
	reads(t, ">====", punct(0, ">="), punct(2, "==="))
	reads(t, "=>", punct(0, "="), punct(1, ">"))
	reads(t, "=<=", punct(0, "="), punct(1, "<="))
	reads(t, "<<>>", punct(0, "<"), punct(1, "<"), punct(2, ">"), punct(3, ">"))
	reads(t, "++", punct(0, "+"), punct(1, "+"))
	reads(t, "-->", punct(0, "-"), punct(1, "-"), punct(2, ">"))
	reads(t, "+=", punct(0, "+"), punct(1, "="))
	reads(t, "**", punct(0, "*"), punct(1, "*"))
	reads(t, "...", punct(0, "."), punct(1, "."), punct(2, "."))
	reads(t, "?.", punct(0, "?"), punct(1, "."))
	reads(t, "&&&&", punct(0, "&&"), punct(2, "&&"))
	reads(t, "||||", punct(0, "||"), punct(2, "||"))
	reads(t, "= = =", punct(0, "="), punct(2, "="), punct(4, "="))
	reads(t, "= ==", punct(0, "="), punct(2, "="), punct(3, "="))
	refuses(t, "&&&", 2)
	refuses(t, "|||", 2)
	refuses(t, "&", 0)
	refuses(t, "a | b", 2)
	refuses(t, "a & & b", 2)
	refuses(t, "a &= b", 2)
}

func TestBytesThatBeginNoToken(t *testing.T) {
	starts := "\"'/ \t\n\r_$"
	for c := range 128 {
		s := string(rune(c))
		letter := 'a' <= c && c <= 'z' || 'A' <= c && c <= 'Z' || '0' <= c && c <= '9'
		if letter || strings.Contains(starts, s) || slices.Contains(allSigns(), s) {
			continue
		}
		refuses(t, s, 0)
		refuses(t, " \n"+s+" "+s, 2)
		refuses(t, "a"+s+"=", 1)
		refuses(t, "''"+s, 2)
		refuses(t, "1 "+s+"1", 2)
	}
	for _, s := range []string{"\u0080", "\u00a0", "\u00aa", "é", "\u2028", "\u2029", "\ufeff", "\ufffd", "\uffff", "ａ", "１", "\U0001F600", "\U0010ffff"} {
		refuses(t, s, 0)
		refuses(t, "a"+s+"b", 1)
		refuses(t, ";"+s, 1)
		refuses(t, "/**/"+s, 4)
	}
}

func TestTokensOfAProgram(t *testing.T) {
	b := "let p = new Proxy({}, {get: function (t, k) { return \"\\u0041\"; }});\n" +
		"// done\nprint(p.x === 'A' && !(1 <= 0));"
	list := []api.Token{
		word(0, "let"), name(4, "p"), punct(6, "="), word(8, "new"), name(12, "Proxy"), punct(17, "("),
		punct(18, "{"), punct(19, "}"), punct(20, ","), punct(22, "{"), name(23, "get"), punct(26, ":"),
		word(28, "function"), punct(37, "("), name(38, "t"), punct(39, ","), name(41, "k"), punct(42, ")"),
		punct(44, "{"), word(46, "return"), text(53, "A"), punct(61, ";"), punct(63, "}"), punct(64, "}"),
		punct(65, ")"), punct(66, ";"),
		name(76, "print"), punct(81, "("), name(82, "p"), punct(83, "."), name(84, "x"), punct(86, "==="),
		text(90, "A"), punct(94, "&&"), punct(97, "!"), punct(98, "("), number(99, 1), punct(101, "<="),
		number(104, 0), punct(105, ")"), punct(106, ")"), punct(107, ";"),
	}
	reads(t, b, list...)
	for i := range b {
		with := b[:i] + "#" + b[i:]
		switch {
		case i == 54 || i == 60 || 70 <= i && i <= 75 || i == 91 || i == 92:
			if got, at, e := Tokens([]byte(with)); e != api.OK || len(got) != len(list)+1 {
				t.Errorf("P1202: a # at %d: %d tokens, %d, error %d", i, len(got), at, e)
			}
		case 54 < i && i < 60:
			refuses(t, with, 54)
		case i == 95:
			refuses(t, with, 94) // a single &
		default:
			refuses(t, with, i)
		}
	}
}
