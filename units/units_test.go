package units

import (
	"fmt"
	"slices"
	"strings"
	"testing"
	"unicode/utf16"
	"unicode/utf8"
)

const (
	high    = "\xed\xa0\xbd" // 55357
	low     = "\xed\xb8\x80" // 56832
	smiling = "\U0001F600"   // both of them
)

// edges are units on both sides of every border that the chapter names.
func edges() []uint16 {
	return []uint16{0, 'a', 127, 128, 0x7FF, 0x800, 0xD7FF, 0xD800, 0xD801, 0xDBFF, 0xDC00, 0xDC01, 0xDFFF, 0xE000, 0xFFFD, 0xFFFF}
}

// encoded is the chapter's encoding of u, bit by bit.
func encoded(u []uint16) string {
	var out []byte
	for len(u) > 0 {
		p, n := rune(u[0]), 1
		if len(u) > 1 {
			if r := utf16.DecodeRune(rune(u[0]), rune(u[1])); r != utf8.RuneError {
				p, n = r, 2
			}
		}
		u = u[n:]
		tail := func(shift int) byte { return 0x80 | byte(p>>shift)&0x3F }
		switch {
		case p < 0x80:
			out = append(out, byte(p))
		case p < 0x800:
			out = append(out, 0xC0|byte(p>>6), tail(0))
		case p < 0x10000:
			out = append(out, 0xE0|byte(p>>12), tail(6), tail(0))
		default:
			out = append(out, 0xF0|byte(p>>18), tail(12), tail(6), tail(0))
		}
	}
	return string(out)
}

// decoded takes the bytes of s for encodings of any length and any code point,
// and gives their units; s is valid exactly if encoding these gives s again.
func decoded(s string) ([]uint16, bool) {
	var out []uint16
	for len(s) > 0 {
		n, p := 1, rune(s[0])
		switch {
		case s[0] < 0x80:
		case s[0]&0xE0 == 0xC0:
			n, p = 2, rune(s[0]&0x1F)
		case s[0]&0xF0 == 0xE0:
			n, p = 3, rune(s[0]&0x0F)
		case s[0]&0xF8 == 0xF0:
			n, p = 4, rune(s[0]&0x07)
		default:
			return nil, false
		}
		if len(s) < n {
			return nil, false
		}
		for _, c := range []byte(s[1:n]) {
			if c&0xC0 != 0x80 {
				return nil, false
			}
			p = p<<6 | rune(c&0x3F)
		}
		if p > utf8.MaxRune {
			return nil, false
		}
		s = s[n:]
		if p > 0xFFFF {
			a, b := utf16.EncodeRune(p)
			out = append(out, uint16(a), uint16(b))
		} else {
			out = append(out, uint16(p))
		}
	}
	return out, true
}

func checkUnits(t *testing.T, u []uint16) {
	t.Helper()
	s := encoded(u)
	if got := Text(u); got != s {
		t.Fatalf("P101: Text(%v) = %q, want %q", u, got, s)
	}
	if got := Of(s); !slices.Equal(got, u) {
		t.Fatalf("P101: Of(%q) = %v, want %v", s, got, u)
	}
	if !Right(s) || Len(s) != len(u) {
		t.Fatalf("P101: of %q: Right %v, Len %d, want %d", s, Right(s), Len(s), len(u))
	}
}

func checkBytes(t *testing.T, s string) {
	t.Helper()
	u, ok := decoded(s)
	if ok && encoded(u) == s {
		checkUnits(t, u)
		return
	}
	if Right(s) || len(Of(s)) != 0 || Len(s) != 0 || Join(s, "a") != "" || Join("a", s) != "" || Join(s, "") != "" || Join("", s) != "" {
		t.Fatalf("P101: %q is not valid, but Right %v, Of %v, Len %d", s, Right(s), Of(s), Len(s))
	}
}

func TestEachUnitAlone(t *testing.T) {
	for u := range 0x10000 {
		checkUnits(t, []uint16{uint16(u)})
	}
}

func TestEachCodePointAboveUnits(t *testing.T) {
	for p := rune(0x10000); p <= utf8.MaxRune; p++ {
		if got := Of(string(p)); !slices.Equal(got, utf16.AppendRune(nil, p)) || Len(string(p)) != 2 || Text(got) != string(p) {
			t.Fatalf("P101: of %#x: Of %v, Len %d, Text %q", p, got, Len(string(p)), Text(got))
		}
	}
}

func TestShortSequencesOfUnits(t *testing.T) {
	checkUnits(t, nil)
	for _, a := range edges() {
		for _, b := range edges() {
			checkUnits(t, []uint16{a, b})
			for _, c := range edges() {
				checkUnits(t, []uint16{a, b, c})
				checkUnits(t, []uint16{a, b, c, a})
			}
		}
	}
}

func TestShortSequencesOfBytes(t *testing.T) {
	for i := range 1 << 16 {
		s := string([]byte{byte(i >> 8), byte(i)})
		checkBytes(t, s[1:])
		checkBytes(t, s)
	}
	pick := []byte{0, 'a', 0x7F, 0x80, 0x8F, 0x90, 0x9F, 0xA0, 0xAF, 0xB0, 0xBF, 0xC0, 0xC1, 0xC2, 0xDF, 0xE0, 0xE1, 0xEC, 0xED, 0xEE, 0xEF, 0xF0, 0xF1, 0xF4, 0xF5, 0xF8, 0xFF}
	for _, a := range pick {
		for _, b := range pick {
			for _, c := range pick {
				checkBytes(t, string([]byte{a, b, c}))
				for _, d := range pick {
					checkBytes(t, string([]byte{a, b, c, d}))
				}
			}
		}
	}
}

func TestSurrogatesAmongOthers(t *testing.T) {
	parts := []string{"", "x", "é", "\uFFFD", smiling, "\ud7ff", "\ue000", high, low, high[:2], high[:1], high[1:], "\xff"}
	for _, a := range parts {
		for _, b := range parts {
			for _, c := range parts {
				checkBytes(t, a+b+c)
			}
		}
	}
}

func TestFaultAnywhereMakesStringInvalid(t *testing.T) {
	for _, fault := range []string{"\xff", "\x80", "\xc0\x80", "\xe0\x80\x80", "\xf0\x80\x80\x80", "\xf4\x90\x80\x80", high + low, "\xed\xa0"} {
		for n := range 5 {
			around := strings.Repeat("é", n)
			for _, s := range []string{fault + around, around + fault, around + fault + around} {
				checkBytes(t, s)
			}
		}
	}
}

func TestJoinIsConcatenationOfUnits(t *testing.T) {
	var texts []string
	for _, a := range edges() {
		texts = append(texts, encoded([]uint16{a}))
		for _, b := range edges() {
			texts = append(texts, encoded([]uint16{a, b}))
		}
	}
	texts = append(texts, "", smiling, smiling+high, low+smiling)
	for _, a := range texts {
		for _, b := range texts {
			want := encoded(append(Of(a), Of(b)...))
			if got := Join(a, b); got != want || !Right(got) {
				t.Fatalf("P101: Join(%q, %q) = %q, want %q", a, b, got, want)
			}
		}
	}
}

func TestJoinPairsOnlyAtTheSeam(t *testing.T) {
	for _, x := range []struct{ a, b, want string }{
		{"a" + high, low + "b", "a" + smiling + "b"},
		{high, low, smiling},
		{low, high, low + high},
		{high, high + "b", high + high + "b"},
		{"a" + low, low, "a" + low + low},
		{smiling, low, smiling + low},
		{high, smiling, high + smiling},
		{"", low, low},
		{high, "", high},
		{"", "", ""},
	} {
		if got := Join(x.a, x.b); got != x.want {
			t.Errorf("P101: Join(%q, %q) = %q, want %q", x.a, x.b, got, x.want)
		}
	}
}

func TestExample(t *testing.T) {
	if got := Of("\U0001F600"); !slices.Equal(got, []uint16{55357, 56832}) {
		t.Errorf("P101: %v", got)
	}
}

func TestLongTexts(t *testing.T) {
	u := make([]uint16, 100000)
	for i := range u {
		u[i] = edges()[i*i%len(edges())]
	}
	checkUnits(t, u)
	checkBytes(t, encoded(u)+"\x80")
}

func TestArgumentsAreNotModified(t *testing.T) {
	store := []uint16{'a', 0xD83D, 0xDE00, 0xD800, 7, 8, 9}
	before := slices.Clone(store)
	Text(store[:4])
	if !slices.Equal(store, before) {
		t.Errorf("P102: Text changed %v to %v", before, store)
	}
}

func TestResultsAreNewlyAllocated(t *testing.T) {
	s := "a" + smiling + high
	first := Of(s)
	want := slices.Clone(first)
	first = append(first[:0], 1, 2, 3, 4)
	if second := Of(s); !slices.Equal(second, want) || &first[0] == &second[0] {
		t.Errorf("P102: a second Of gives %v, want %v", second, want)
	}

	u := []uint16{'a', 'b'}
	text := Text(u)
	u[0] = 'z'
	if text != "ab" {
		t.Errorf("P102: Text keeps its argument: %q", text)
	}
}

func TestResultsDependOnlyOnArguments(t *testing.T) {
	calls := func(s string) string {
		return fmt.Sprint(Of(s), Right(s), Len(s), Join(s, low), Text(Of(s)))
	}
	for _, s := range []string{"", "a", smiling, high, "\xff"} {
		first := calls(s)
		calls("other" + high)
		calls("\xff")
		if again := calls(s); again != first {
			t.Errorf("P102: of %q: %s, then %s", s, first, again)
		}
	}
}
