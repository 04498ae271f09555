package lex

import (
	"strings"
	"testing"
	"unicode/utf8"

	"understudy/api"
)

func TestLengthOfTheSource(t *testing.T) {
	spaces := strings.Repeat(" ", api.MaxSource)
	reads(t, spaces)
	reads(t, spaces[1:]+"a", name(api.MaxSource-1, "a"))
	for _, b := range []string{spaces + " ", spaces + "a", spaces + "#", "#" + spaces, "\xff" + spaces, spaces + "\xff", "/*" + spaces, strings.Repeat("a", 1<<20)} {
		got, at, e := Tokens([]byte(b))
		if s, want := show(got, at, e), show(nil, 0, api.ErrLong); s != want {
			t.Errorf("P1202: %d bytes: %.100s, want %s", len(b), s, want)
		}
	}
	refuses(t, spaces[1:]+"#", api.MaxSource-1)
	refuses(t, spaces[1:]+"\x80", api.MaxSource-1)
	many := make([]api.Token, api.MaxSource)
	for i := range many {
		many[i] = punct(i, ";")
	}
	reads(t, strings.Repeat(";", api.MaxSource), many...)
}

func TestBytesThatAreNotUTF8(t *testing.T) {
	wrong := []string{
		"\x80", "\xbf", "\xc0\x80", "\xc1\xbf", "\xc2", "\xc2a", "\xc2\xc2", "\xe0\x80\x80", "\xe0\x9f\xbf",
		"\xe2\x82", "\xe2\x82a", "\xe2a", "\xed\xa0\x80", "\xed\xa0\xbd\xed\xb8\x80", "\xed\xbf\xbf",
		"\xf0\x80\x80\x80", "\xf0\x8f\xbf\xbf", "\xf0\x9f\x98", "\xf0\x9f\x98a", "\xf4\x90\x80\x80",
		"\xf5\x80\x80\x80", "\xf8\x88\x80\x80\x80", "\xfe", "\xff", "\xef\xbf", "\xef\xbf\xbd\xff"[3:],
	}
	for _, w := range wrong {
		refuses(t, w, 0)
		refuses(t, "a "+w+"\ufffd", 2)
		refuses(t, "\"é\ufffd"+w+"\"", 6)
		refuses(t, "/*"+w+"*/", 2)
		refuses(t, "//"+w, 2)
		refuses(t, "'\\"+w, 2)
		// Whatever else is wrong comes later, wherever it stands.
		refuses(t, "# \"\\x /* "+w, 9)
		refuses(t, "var "+w+"\xff", 4)
	}
	refuses(t, "'\ufffd\xef\xbf'", 4)
	refuses(t, "'\U0001F600\xf0\x9f\x98", 5)
	reads(t, "'\u007f\u0080\u07ff\u0800\ud7ff\ue000\ufffd\uffff\U00010000\U0010ffff'", text(0, "\u007f\u0080\u07ff\u0800\ud7ff\ue000\ufffd\uffff\U00010000\U0010ffff"))
}

func TestEveryPairOfBytesIsDecodedAlike(t *testing.T) {
	for a := range 256 {
		for b := range 256 {
			s := []byte{'/', '*', byte(a), byte(b), '*', '/'}
			_, at, e := Tokens(s)
			if utf8.Valid(s) != (e == api.OK) || e == api.OK && at != 0 {
				t.Errorf("P1202: Tokens(%q): %d, error %d", s, at, e)
			}
		}
	}
}

func TestFirstErrorCounts(t *testing.T) {
	refuses(t, "# @", 0)
	refuses(t, "a @ #", 2)
	refuses(t, "a var @", 2)
	refuses(t, "a 01 var", 2)
	refuses(t, "'\\x' #", 1)
	refuses(t, "# '\\x'", 0)
	refuses(t, "'\\x\\y'", 1)
	refuses(t, "'\\n\\y\\x'", 3)
	refuses(t, "'\n\\x'", 0)
	refuses(t, "'\\x\n'", 1)
	refuses(t, "'\\x", 1)
	refuses(t, "'a \\", 3)
	refuses(t, "/* '\\x'", 0)
	refuses(t, "'\\x' /*", 1)
	refuses(t, "var /*", 0)
	refuses(t, "1a '", 0)
}

func TestUnitsOfAString(t *testing.T) {
	full := strings.Repeat("a", api.MaxUnits)
	reads(t, "'"+full+"'", text(0, full))
	refuses(t, " '"+full+"a'", 1)
	refuses(t, "'"+full+"é'", 0)
	refuses(t, "'"+full+"\\n' #", 0)
	wide := strings.Repeat("é", api.MaxUnits)
	reads(t, "'"+wide+"'", text(0, wide))
	refuses(t, "'"+wide+"é'", 0)
	// A code point above 65535 is two units, in whatever way it is written.
	pairs := strings.Repeat("\U0001F600", api.MaxUnits/2)
	reads(t, "'"+pairs+"'", text(0, pairs))
	refuses(t, "'"+pairs+"a'", 0)
	refuses(t, "'"+pairs[4:]+"a\U0001F600'", 0)
	escaped := strings.Repeat(`\u0061`, api.MaxUnits)
	reads(t, "'"+escaped+"'", text(0, full))
	refuses(t, "'"+escaped+"a'", 0)
	halves := `\ud83d\ude00`
	reads(t, "'"+pairs[4:]+halves+"'", text(0, pairs))
	refuses(t, "'"+pairs[4:]+halves+"a'", 0)
	refuses(t, "'"+pairs+halves+"'", 0)
	// What comes before the closing quote is found first.
	refuses(t, "'"+full+"a\\x'", 10002)
	refuses(t, " '"+full+"aa\\", 10004)
	refuses(t, "'"+full+"a\n\\x'", 0)
	refuses(t, "'\\x"+full+"a'", 1)
	refuses(t, "'"+full+"a' '\\x'", 0)
	reads(t, "'"+full+"''"+full+"'", text(0, full), text(2+len(full), full))
	reads(t, "/*"+full+"a*/"+full+"a", name(5+len(full), full+"a"))
}
