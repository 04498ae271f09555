package lex

import (
	"math/big"
	"regexp"
	"strings"
	"testing"
	"unicode/utf16"
	"unicode/utf8"

	"understudy/api"
)

// model is P1202 once more, by patterns: it takes what they match off the
// beginning of what is left.
type model struct {
	space, open, name, number, canonical, follows, unit, plain, ends *regexp.Regexp
}

func newModel() model {
	must := regexp.MustCompile
	return model{
		space:     must(`^(?:[ \t\r\n]|//[^\n]*|/\*(?s:.*?)\*/)*`),
		open:      must(`^/\*`),
		name:      must(`^[A-Za-z_$][A-Za-z_$0-9]*`),
		number:    must(`^[0-9]+`),
		canonical: must(`^(?:0|[1-9][0-9]*)$`),
		follows:   must(`^[A-Za-z_$]`),
		unit:      must(`^\\u([0-9a-fA-F])([0-9a-fA-F])([0-9a-fA-F])([0-9a-fA-F])`),
		plain:     must(`^\\[nt\\"']`),
		ends:      must(`^(?:[\n\r]|$)`),
	}
}

// tokens is Tokens.
func (m model) tokens(b []byte) ([]api.Token, int, api.Errno) {
	if len(b) > 65536 {
		return nil, 0, api.ErrLong
	}
	for i := 0; i < len(b); {
		p, n := utf8.DecodeRune(b[i:])
		if p == utf8.RuneError && n == 1 {
			return nil, i, api.ErrSyntax
		}
		i += n
	}
	var list []api.Token
	rest := string(b)
	for {
		rest = rest[len(m.space.FindString(rest)):]
		at := len(b) - len(rest)
		if m.open.MatchString(rest) {
			return nil, at, api.ErrSyntax
		}
		if rest == "" {
			return append(list, api.Token{At: at}), 0, api.OK
		}
		t, n := m.one(rest)
		if n <= 0 {
			return nil, at - n, api.ErrSyntax
		}
		t.At = at
		list, rest = append(list, t), rest[n:]
	}
}

// one returns the token that s begins with and its length, or how far from its
// beginning the error is, which is not above 0.
func (m model) one(s string) (api.Token, int) {
	if id := m.name.FindString(s); id != "" {
		switch classOf(id) {
		case 0:
			return api.Token{Kind: 1, Text: id}, len(id)
		case 1:
			return api.Token{Kind: 2, Text: id}, len(id)
		}
		return api.Token{}, 0
	}
	if digits := m.number.FindString(s); digits != "" {
		n, _ := new(big.Int).SetString(digits, 10)
		if !m.canonical.MatchString(digits) || n.BitLen() > 53 || m.follows.MatchString(s[len(digits):]) {
			return api.Token{}, 0
		}
		return api.Token{Kind: 3, Num: int(n.Int64())}, len(digits)
	}
	if s[0] == '"' || s[0] == '\'' {
		return m.quoted(s)
	}
	best := ""
	for _, sign := range allSigns() {
		if strings.HasPrefix(s, sign) && len(sign) > len(best) {
			best = sign
		}
	}
	return api.Token{Kind: 5, Text: best}, len(best)
}

func (m model) quoted(s string) (api.Token, int) {
	var value []uint16
	for i := 1; ; {
		rest := s[i:]
		if m.ends.MatchString(rest) {
			return api.Token{}, 0
		}
		if rest[0] == s[0] {
			if len(value) > 10000 {
				return api.Token{}, 0
			}
			return api.Token{Kind: 4, Text: joined(value)}, i + 1
		}
		if found := m.unit.FindStringSubmatch(rest); found != nil {
			sum := 0
			for _, digit := range found[1:] {
				sum = sum*16 + strings.Index("0123456789abcdef", strings.ToLower(digit))
			}
			value = append(value, uint16(sum))
			i += 6
		} else if m.plain.MatchString(rest) {
			c := rest[1]
			switch c {
			case 'n':
				c = 10
			case 't':
				c = 9
			}
			value = append(value, uint16(c))
			i += 2
		} else if rest[0] == '\\' {
			return api.Token{}, -i
		} else {
			p, n := utf8.DecodeRuneInString(rest)
			value = utf16.AppendRune(value, p)
			i += n
		}
	}
}

// joined returns the string of chapter 1 with the units u.
func joined(u []uint16) string {
	var out []byte
	for i := 0; i < len(u); i++ {
		p := rune(u[i])
		if !utf16.IsSurrogate(p) {
			out = utf8.AppendRune(out, p)
		} else if i+1 < len(u) && utf16.DecodeRune(p, rune(u[i+1])) != utf8.RuneError {
			out = utf8.AppendRune(out, utf16.DecodeRune(p, rune(u[i+1])))
			i++
		} else {
			out = append(out, 0xE0|byte(p>>12), 0x80|byte(p>>6)&0x3F, 0x80|byte(p)&0x3F)
		}
	}
	return string(out)
}

// agrees checks that Tokens of b returns what the model does.
func (m model) agrees(t *testing.T, b string) {
	t.Helper()
	list, at, e := Tokens([]byte(b))
	wantList, wantAt, wantE := m.tokens([]byte(b))
	if got, want := show(list, at, e), show(wantList, wantAt, wantE); got != want {
		t.Fatalf("P1202: Tokens(%.200q) = %.400s, want %.400s", b, got, want)
	}
}

func TestEveryPairOfBytes(t *testing.T) {
	m := newModel()
	for a := range 256 {
		for b := range 256 {
			pair := string([]byte{byte(a), byte(b)})
			m.agrees(t, pair)
			m.agrees(t, "'"+pair+"'")
		}
	}
}

func TestShortTexts(t *testing.T) {
	m := newModel()
	const bytes = "a01\"'\\nu/*=!&<\n .\xc3\xa9"
	list := []string{""}
	for range 4 {
		var next []string
		for _, s := range list {
			for i := range len(bytes) {
				next = append(next, s+bytes[i:i+1])
			}
		}
		for _, s := range next {
			m.agrees(t, s)
		}
		list = next
	}
}

// dice is a row of numbers that is always the same.
type dice uint32

func (d *dice) roll(n int) int {
	*d = *d*1664525 + 1013904223
	return int(*d>>8) % n
}

// pieces are what texts made by chance are made of. Most of them are right.
func pieces() []string {
	list := append(append(usedWords(), allSigns()...), allSigns()...)
	return append(list, " ", " ", "\n", "\t", "\r", "\r\n", "//", "// a", "/*", "*/", "/* a */", "/**/",
		"a", "b1", "_", "$x", "get", "set", "ab", "Z", "0", "7", "10", "9007199254740991", "9007199254740992",
		"''", `""`, "'a'", `"b"`, `'\n'`, `"\u0041"`, `"\ud83d\ude00"`, `'\ude00'`, `"é"`, "'\U0001F600'",
		`'\\'`, `"\""`, `'\''`, `'"'`, `"'"`, "'", `"`, `\`, `\u00`, `\u0061`, `\n`, "var", "class", "&", "#",
		"é", "\xff", "\xed\xa0\x80", "\xe2\x82", "01", "1a", "\x00", "\U0001F600")
}

func TestTextsMadeByChance(t *testing.T) {
	m := newModel()
	list := pieces()
	// The last pieces are those that are wrong nearly everywhere.
	right := len(list) - 18
	fine, seen := 0, 0
	for seed := range 60000 {
		d := dice(seed)
		var b strings.Builder
		for range d.roll(24) {
			among := right
			if d.roll(12) == 0 {
				among = len(list)
			}
			b.WriteString(list[d.roll(among)])
			if d.roll(2) == 0 {
				b.WriteByte(' ')
			}
		}
		m.agrees(t, b.String())
		seen++
		if _, _, e := Tokens([]byte(b.String())); e == api.OK {
			fine++
		}
	}
	if fine < seen/5 || fine > seen*4/5 {
		t.Errorf("%d of %d texts are right", fine, seen)
	}
}
