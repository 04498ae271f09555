package lex

import (
	"fmt"
	"slices"
	"strings"
	"testing"

	"understudy/api"
)

// show tells what Tokens returns; nil and empty lists are the same.
func show(list []api.Token, at int, e api.Errno) string {
	return fmt.Sprintf("%#v at %d, error %d", append([]api.Token{}, list...), at, e)
}

// reads checks that Tokens of b returns list and the end.
func reads(t *testing.T, b string, list ...api.Token) {
	t.Helper()
	list = append(slices.Clip(list), api.Token{Kind: api.TEnd, At: len(b)})
	got, at, e := Tokens([]byte(b))
	if s, want := show(got, at, e), show(list, 0, api.OK); s != want {
		t.Errorf("P1202: Tokens(%.60q) = %.300s, want %.300s", b, s, want)
	}
}

// refuses checks that Tokens of b returns ErrSyntax at an offset.
func refuses(t *testing.T, b string, at int) {
	t.Helper()
	got, gotAt, e := Tokens([]byte(b))
	if s, want := show(got, gotAt, e), show(nil, at, api.ErrSyntax); s != want {
		t.Errorf("P1202: Tokens(%.60q) = %.300s, want %.300s", b, s, want)
	}
}

func name(at int, s string) api.Token  { return api.Token{Kind: api.TName, At: at, Text: s} }
func word(at int, s string) api.Token  { return api.Token{Kind: api.TWord, At: at, Text: s} }
func number(at, n int) api.Token       { return api.Token{Kind: api.TNumber, At: at, Num: n} }
func text(at int, s string) api.Token  { return api.Token{Kind: api.TString, At: at, Text: s} }
func punct(at int, s string) api.Token { return api.Token{Kind: api.TSign, At: at, Text: s} }

func TestExample(t *testing.T) {
	reads(t, "a.b", name(0, "a"), punct(1, "."), name(2, "b"))
}

func TestGaps(t *testing.T) {
	reads(t, "")
	reads(t, " ")
	reads(t, " \t\n\r")
	reads(t, "\t a\r\n b ", name(2, "a"), name(6, "b"))
	reads(t, "// a")
	reads(t, "//")
	reads(t, "///* a")
	reads(t, "// a\nb", name(5, "b"))
	reads(t, "// a\r b", []api.Token{}...)
	reads(t, "// a\u2028b")
	reads(t, "a//b\n//c\n\n d", name(0, "a"), name(11, "d"))
	reads(t, "/**/")
	reads(t, "/***/")
	reads(t, "/* * / /* */a", name(12, "a"))
	reads(t, "/*/ a */b", name(8, "b"))
	reads(t, "/* // */ b", name(9, "b"))
	reads(t, "/*\n\r\"é\\\x00#*/b", name(12, "b"))
	reads(t, "a/**/b", name(0, "a"), name(5, "b"))
	reads(t, "1/**/2", number(0, 1), number(5, 2))
	reads(t, "=/**/==", punct(0, "="), punct(5, "="), punct(6, "="))
	reads(t, "/**//**/ /**/;", punct(13, ";"))
	reads(t, "/**/*/", punct(4, "*"), punct(5, "/"))
	reads(t, "a / /b", name(0, "a"), punct(2, "/"), punct(4, "/"), name(5, "b"))
	reads(t, "\"//\"'/*'", text(0, "//"), text(4, "/*"))
	refuses(t, "/*", 0)
	refuses(t, "/*/", 0)
	refuses(t, "a /* b * / # ", 2)
	refuses(t, "/**/ /*", 5)
	refuses(t, "// */\n/*", 6)
	refuses(t, "/* \"*/\"", 6)
}

func TestNames(t *testing.T) {
	for _, s := range []string{"a", "z", "A", "Z", "_", "$", "a0", "z9", "_9$", "$_", "aZ_$09", "If", "iff", "in1", "_if", "$new", "get", "set", "of", "Undefined"} {
		reads(t, s, name(0, s))
		reads(t, " "+s+";", name(1, s), punct(1+len(s), ";"))
		reads(t, s+"/**/"+s, name(0, s), name(4+len(s), s))
		reads(t, s+".1", name(0, s), punct(len(s), "."), number(1+len(s), 1))
	}
	for _, s := range usedWords() {
		reads(t, s, word(0, s))
		reads(t, "a."+s+"(", name(0, "a"), punct(1, "."), word(2, s), punct(2+len(s), "("))
		reads(t, s+"1", name(0, s+"1"))
		reads(t, "'"+s+"'", text(0, s))
		reads(t, "$"+s, name(0, "$"+s))
	}
	for _, s := range unusedWords() {
		refuses(t, s, 0)
		refuses(t, "a."+s, 2)
		refuses(t, "{\n "+s+":1}", 3)
		reads(t, s+"_", name(0, s+"_"))
		reads(t, "'"+s+"'", text(0, s))
		reads(t, "//"+s)
	}
	long := strings.Repeat("ab", api.MaxSource/2)
	reads(t, long, name(0, long))
}

func TestNumbers(t *testing.T) {
	for n := range 1200 {
		reads(t, fmt.Sprint(n), number(0, n))
	}
	for _, n := range []int{1 << 31, 1<<32 - 1, 1 << 32, 1 << 52, 9007199254740990, 9007199254740991} {
		s := fmt.Sprint(n)
		reads(t, s, number(0, n))
		reads(t, "-"+s+"+", punct(0, "-"), number(1, n), punct(1+len(s), "+"))
		refuses(t, s+"a", 0)
	}
	reads(t, "1.5", number(0, 1), punct(1, "."), number(2, 5))
	reads(t, "0.0", number(0, 0), punct(1, "."), number(2, 0))
	reads(t, "0 1", number(0, 0), number(2, 1))
	reads(t, "1'a'2", number(0, 1), text(1, "a"), number(4, 2))
	reads(t, "1\n2//3", number(0, 1), number(2, 2))
	refuses(t, " 00", 1)
	refuses(t, "01", 0)
	refuses(t, "09;", 0)
	refuses(t, "1.05", 2)
	refuses(t, "0x10", 0)
	refuses(t, "0b1", 0)
	refuses(t, "1e3", 0)
	refuses(t, "1_000", 0)
	refuses(t, "a=1$;", 2)
	refuses(t, "1Z", 0)
	refuses(t, "2in a", 0)
	refuses(t, "0\\u0061", 1)
	refuses(t, "1\u00e9", 1)
	refuses(t, "\u0661", 0)
}

func TestNumbersThatAreTooGreat(t *testing.T) {
	list := []string{
		"9007199254740992", "9007199254740993", "10000000000000000", "99999999999999999",
		"9223372036854775807", "9223372036854775808", "18446744073709551615", "18446744073709551616",
		"18446744073709551617", "36893488147419103232", "340282366920938463463374607431768211457",
		"1" + strings.Repeat("0", 1000), strings.Repeat("9", api.MaxSource-1),
	}
	for _, s := range list {
		refuses(t, " "+s, 1)
	}
	refuses(t, strings.Repeat("0", api.MaxSource), 0)
}

func TestStrings(t *testing.T) {
	reads(t, `""`, text(0, ""))
	reads(t, `''`, text(0, ""))
	reads(t, `"a"'b'`, text(0, "a"), text(3, "b"))
	reads(t, `"it's"'"'`, text(0, "it's"), text(6, `"`))
	reads(t, `'a\n\t\\\"\'b'`, text(0, "a\n\t\\\"'b"))
	reads(t, `"a\n\t\\\"\'b";`, text(0, "a\n\t\\\"'b"), punct(14, ";"))
	reads(t, `"\\"`, text(0, `\`))
	controls := "\x00\x01\x08\t\v\f\x1f\x7f/*"
	reads(t, "'"+controls+"'", text(0, controls))
	wide := "\u0080\u00e9\u2028\u2029\uffff\ufffd\ufeff\U00010000\U0010ffff"
	reads(t, "'"+wide+"';", text(0, wide), punct(2+len(wide), ";"))
	reads(t, `"\u0000\u000a\u000d\u0022\u005C"`, text(0, "\x00\n\r\"\\"))
	reads(t, `"\u0061b\u00E9\u00e9\uABCD\uabcd\uFfFf\uEF01\uef01"`, text(0, "ab\u00e9\u00e9\uabcd\uabcd\uffff\uef01\uef01"))
	reads(t, `"\u00411"`, text(0, "A1"))
	reads(t, `"\\u0041"`, text(0, `\u0041`))
	refuses(t, `"a`, 0)
	refuses(t, ` '`, 1)
	refuses(t, `a "b' c`, 2)
	refuses(t, "'a\nb'", 0)
	refuses(t, "'a\rb'", 0)
	refuses(t, " \"\n\"", 1)
	refuses(t, `'a\'`, 0)
	refuses(t, `'\u0041`, 0)
	refuses(t, `''' #`, 2)
}

func TestSurrogates(t *testing.T) {
	const high, low, pair = "\xed\xa0\xbd", "\xed\xb8\x80", "\U0001F600"
	reads(t, `"\ud83d\ude00"`, text(0, pair))
	reads(t, `"\uD800\uDC00\uDBFF\uDFFF"`, text(0, "\U00010000\U0010ffff"))
	reads(t, `"\ud83d"`, text(0, high))
	reads(t, `"\ude00"`, text(0, low))
	reads(t, `"\ude00\ud83d"`, text(0, low+high))
	reads(t, `"\ud83d\ud83d\ude00\ude00"`, text(0, high+pair+low))
	reads(t, `"\ud83dx\ude00"`, text(0, high+"x"+low))
	reads(t, `'\ud83d`+pair+`\ude00'`, text(0, high+pair+low))
	reads(t, `"\ud83d""\ude00"`, text(0, high), text(8, low))
	reads(t, `"\ud7ff\ue000"`, text(0, "\ud7ff\ue000"))
}

func TestEscapesThatAreNotValid(t *testing.T) {
	for c := range 256 {
		if !strings.ContainsRune(`nt\"'u`, rune(c)) {
			refuses(t, ` 'a\`+string(rune(c))+`'`, 3)
			refuses(t, ` 'a\`+string(rune(c)), 3)
		}
	}
	refuses(t, `a "b\`, 4)
	refuses(t, `a "b\n\`, 6)
	list := []string{
		`u`, `u0`, `u00`, `u004`, `u004g`, `u00g1`, `u0g41`, `ug041`, `u 041`, `u+041`, `u-041`, `u0x41`,
		`u0_41`, `u{41}`, `u{0041}`, `U0041`, `x41`, `0`, `u00\u0041`, `u004\n`, `u\u0041`, "u004\u00e9",
		"u004\uff11", "u00\u00e9", "u\U0001F600", "u004\n1", "\n", "\r\n", "u004\r", "u004/", "u004:",
		"u004@", "u004G", "u004`", "u004g", "u004\x001", "\u2028",
	}
	for _, s := range list {
		refuses(t, `a "b\`+s, 4)
		refuses(t, `a 'b\`+s+`'`, 4)
		refuses(t, `a "b\`+s+`" \`, 4)
		refuses(t, `a "b\n\`+s+`"`, 6)
	}
}
