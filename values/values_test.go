package values

import (
	"fmt"
	"math"
	"slices"
	"strconv"
	"strings"
	"testing"
	"unicode/utf16"
	"unicode/utf8"

	"understudy/api"
)

const (
	greatest = 9007199254740991 // 2^53 - 1
	maxUnits = 10000
	high     = "\xed\xa0\xbd" // 55357
	low      = "\xed\xb8\x80" // 56832
	smiling  = "\U0001F600"   // both of them
)

func boolean(n int) api.Value { return api.Value{Kind: api.Bool, Num: n} }

func number(n int) api.Value { return api.Value{Kind: api.Number, Num: n} }

func text(s string) api.Value { return api.Value{Kind: api.String, Str: s} }

func symbol(n int) api.Value { return api.Value{Kind: api.Symbol, Num: n} }

func object(n int) api.Value { return api.Value{Kind: api.Object, Num: n} }

func undefined() api.Value { return api.Value{Kind: api.Undefined} }

func null() api.Value { return api.Value{Kind: api.Null} }

func unknownKinds() []int {
	return []int{-1, -2, -6, 7, 8, 30, 1 << 32, math.MaxInt, math.MinInt}
}

func someNums() []int {
	return []int{0, 1, -1, 2, 3, -3, 7, 1 << 32, greatest, -greatest, greatest + 1, -greatest - 1, math.MaxInt, math.MinInt}
}

func invalidTexts() []string {
	return []string{"\xff", "a\x80", "\xc3", "\xe2\x82", "\xc0\x80", "\xe0\x80\x80", "\xf0\x80\x80\x80", "\xf4\x90\x80\x80", high + low, high[:2], low[:1], "x" + high + low + "y", smiling + "\xfe"}
}

func someTexts() []string {
	return append(invalidTexts(), "", "0", "1", "-1", "12", "01", "-0", "+1", " 1", "1.0", "9007199254740991", "9007199254740992", "a", "true", "null", "é", "\uFFFD", smiling, high, low, low+high)
}

// pool has values of all kinds, valid and not.
func pool() []api.Value {
	var list []api.Value
	for _, kind := range append(unknownKinds(), 0, 1, 2, 3, 4, 5, 6) {
		for _, n := range someNums() {
			for _, s := range someTexts() {
				list = append(list, api.Value{Kind: kind, Num: n, Str: s})
			}
		}
	}
	return list
}

// encoded is the string that has the units u, one surrogate or pair at a time.
func encoded(u ...uint16) string {
	var out []byte
	for i := 0; i < len(u); i++ {
		p := rune(u[i])
		if i+1 < len(u) {
			if pair := utf16.DecodeRune(p, rune(u[i+1])); pair != utf8.RuneError {
				out = utf8.AppendRune(out, pair)
				i++
				continue
			}
		}
		if utf16.IsSurrogate(p) {
			out = append(out, 0xED, byte(0x80|p>>6&0x3F), byte(0x80|p&0x3F))
		} else {
			out = utf8.AppendRune(out, p)
		}
	}
	return string(out)
}

// shown is the chapter's printable form of the string with the units u.
func shown(u ...uint16) string {
	out := `"`
	for _, x := range u {
		if x < 32 || x > 126 || x == 34 || x == 92 {
			out += fmt.Sprintf("\\u%04x", x)
		} else {
			out += string(rune(x))
		}
	}
	return out + `"`
}

func checkShown(t *testing.T, u ...uint16) {
	t.Helper()
	s := encoded(u...)
	if got, want := Show(text(s), false), shown(u...); got != want {
		t.Fatalf("P402: Show of the string %q is %s, want %s", s, got, want)
	}
}

func TestRightTakesTheFieldsOfEachKind(t *testing.T) {
	for _, x := range []struct {
		value api.Value
		want  bool
	}{
		{undefined(), true},
		{null(), true},
		{boolean(0), true},
		{boolean(1), true},
		{boolean(2), false},
		{boolean(-1), false},
		{boolean(math.MinInt), false},
		{number(0), true},
		{number(-7), true},
		{number(greatest), true},
		{number(-greatest), true},
		{number(greatest + 1), false},
		{number(-greatest - 1), false},
		{number(math.MaxInt), false},
		{number(math.MinInt), false},
		{text(""), true},
		{text("a\x00é"), true},
		{text(smiling), true},
		{text(low + high), true},
		{text(high), true},
		{text(high + low), false},
		{text("\xff"), false},
		{symbol(1), true},
		{symbol(math.MaxInt), true},
		{symbol(0), false},
		{symbol(-1), false},
		{object(0), true},
		{object(1), true},
		{object(math.MaxInt), true},
		{object(-1), false},
		{object(math.MinInt), false},
	} {
		if got := Right(x.value); got != x.want {
			t.Errorf("P401: Right(%+v) = %v, want %v", x.value, got, x.want)
		}
	}
	for _, s := range invalidTexts() {
		if Right(text(s)) {
			t.Errorf("P401: the string %q is right", s)
		}
	}
}

func TestRightWantsOtherFieldsToBeZero(t *testing.T) {
	for _, v := range []api.Value{undefined(), null(), boolean(0), boolean(1), number(0), number(5), symbol(1), object(0), object(3)} {
		for _, s := range []string{"a", "\x00", "0", "\xff"} {
			v.Str = s
			if Right(v) {
				t.Errorf("P401: Right(%+v)", v)
			}
		}
	}
	for _, n := range someNums() {
		for _, v := range []api.Value{{Kind: api.Undefined, Num: n}, {Kind: api.Null, Num: n}, {Kind: api.String, Num: n}, {Kind: api.String, Num: n, Str: "a"}} {
			if Right(v) != (n == 0) {
				t.Errorf("P401: Right(%+v) = %v", v, Right(v))
			}
		}
	}
}

func TestRightCountsUnits(t *testing.T) {
	for _, x := range []struct {
		text string
		n    int
	}{
		{strings.Repeat("a", maxUnits-1), maxUnits - 1},
		{strings.Repeat("a", maxUnits), maxUnits},
		{strings.Repeat("a", maxUnits+1), maxUnits + 1},
		{strings.Repeat("é", maxUnits), maxUnits},
		{strings.Repeat("é", maxUnits+1), maxUnits + 1},
		{strings.Repeat(high, maxUnits), maxUnits},
		{strings.Repeat(high, maxUnits+1), maxUnits + 1},
		{strings.Repeat(smiling, maxUnits/2), maxUnits},
		{strings.Repeat(smiling, maxUnits/2) + "a", maxUnits + 1},
		{"a" + strings.Repeat(smiling, maxUnits/2-1), maxUnits - 1},
		{strings.Repeat(smiling, maxUnits), 2 * maxUnits},
		{strings.Repeat("€", 50*maxUnits), 50 * maxUnits},
	} {
		if got := Right(text(x.text)); got != (x.n <= maxUnits) {
			t.Errorf("P401: of a string with %d units, %.9q and so on, Right is %v", x.n, x.text, got)
		}
		if Right(text(x.text + "\xff")) {
			t.Errorf("P401: a string with a fault after %d units is right", x.n)
		}
	}
}

func TestRightOfUnknownKinds(t *testing.T) {
	for _, kind := range unknownKinds() {
		for _, n := range someNums() {
			for _, s := range []string{"", "a"} {
				if v := (api.Value{Kind: kind, Num: n, Str: s}); Right(v) {
					t.Errorf("P401: Right(%+v)", v)
				}
			}
		}
	}
}

func TestSame(t *testing.T) {
	list := []api.Value{undefined(), null(), boolean(0), boolean(1), boolean(2), number(0), number(1), number(-1), text(""), text("0"), text("a"), text("A"), text(high), text("\xff"), symbol(1), symbol(2), object(0), object(1), {Kind: 7}, {Kind: -1}, {Kind: 7, Num: 1}, {Num: 1}, {Str: "a"}, {Kind: api.Number, Num: 1, Str: "a"}, {Kind: api.String, Num: 1, Str: "a"}, {Kind: api.Object, Str: "a"}}
	for i, a := range list {
		for j, b := range list {
			b.Str = strings.Clone(b.Str)
			if got := Same(a, b); got != (i == j) {
				t.Errorf("P401: Same(%+v, %+v) = %v", a, b, got)
			}
		}
	}
}

func TestTruth(t *testing.T) {
	for _, x := range []struct {
		value api.Value
		want  bool
	}{
		{undefined(), false},
		{null(), false},
		{boolean(0), false},
		{boolean(1), true},
		{boolean(2), true},
		{boolean(-1), true},
		{number(0), false},
		{number(1), true},
		{number(-1), true},
		{number(greatest + 1), true},
		{number(math.MinInt), true},
		{text(""), false},
		{text("0"), true},
		{text("false"), true},
		{text("\x00"), true},
		{text(" "), true},
		{text("\xff"), true},
		{symbol(1), true},
		{symbol(0), true},
		{object(0), true},
		{object(5), true},
		{object(-1), true},
	} {
		if got := Truth(x.value); got != x.want {
			t.Errorf("P401: Truth(%+v) = %v, want %v", x.value, got, x.want)
		}
	}
	for _, kind := range unknownKinds() {
		if v := (api.Value{Kind: kind}); !Truth(v) {
			t.Errorf("P401: Truth(%+v) = false", v)
		}
	}
}

func TestTruthIgnoresOtherFields(t *testing.T) {
	for _, v := range []api.Value{{Kind: api.Undefined, Num: 1, Str: "a"}, {Kind: api.Null, Num: 1, Str: "a"}, {Kind: api.Bool, Str: "a"}, {Kind: api.Number, Str: "a"}, {Kind: api.String, Num: 1}} {
		if Truth(v) {
			t.Errorf("P401: Truth(%+v) = true", v)
		}
	}
}

func TestType(t *testing.T) {
	for _, x := range []struct {
		value        api.Value
		want, called string
	}{
		{undefined(), "undefined", "undefined"},
		{null(), "object", "object"},
		{boolean(0), "boolean", "boolean"},
		{boolean(1), "boolean", "boolean"},
		{number(7), "number", "number"},
		{text("a"), "string", "string"},
		{text("\xff"), "string", "string"},
		{symbol(1), "symbol", "symbol"},
		{symbol(-1), "symbol", "symbol"},
		{object(0), "object", "function"},
		{object(7), "object", "function"},
		{object(-7), "object", "function"},
		{api.Value{Num: 6, Str: "a"}, "undefined", "undefined"},
	} {
		if got := Type(x.value, false); got != x.want {
			t.Errorf("P401: Type(%+v, false) = %q, want %q", x.value, got, x.want)
		}
		if got := Type(x.value, true); got != x.called {
			t.Errorf("P401: Type(%+v, true) = %q, want %q", x.value, got, x.called)
		}
	}
	for _, kind := range unknownKinds() {
		v := api.Value{Kind: kind, Num: 1, Str: "a"}
		if Type(v, false) != "" || Type(v, true) != "" {
			t.Errorf("P401: of the unknown kind %d, Type is %q or %q", kind, Type(v, false), Type(v, true))
		}
	}
}

func TestText(t *testing.T) {
	for _, x := range []struct {
		value api.Value
		want  string
	}{
		{undefined(), "undefined"},
		{null(), "null"},
		{boolean(0), "false"},
		{boolean(1), "true"},
		{boolean(-5), "true"},
		{number(0), "0"},
		{number(-12), "-12"},
		{number(greatest), "9007199254740991"},
		{number(math.MinInt), "-9223372036854775808"},
		{text(""), ""},
		{text("a"), "a"},
		{text(`"`), `"`},
		{text("007"), "007"},
		{text(high + "\x00é"), high + "\x00é"},
		{text("\xff"), "\xff"},
		{api.Value{Kind: api.Null, Num: 3, Str: "a"}, "null"},
		{api.Value{Kind: api.String, Num: 3, Str: "a"}, "a"},
	} {
		if got, ok := Text(x.value); got != x.want || !ok {
			t.Errorf("P402: Text(%+v) = %q, %v, want %q, true", x.value, got, ok, x.want)
		}
	}
}

func TestTextOfOthers(t *testing.T) {
	for _, kind := range append(unknownKinds(), api.Symbol, api.Object) {
		for _, n := range someNums() {
			for _, s := range []string{"", "a"} {
				v := api.Value{Kind: kind, Num: n, Str: s}
				if got, ok := Text(v); got != "" || ok {
					t.Errorf("P402: Text(%+v) = %q, %v, want none", v, got, ok)
				}
			}
		}
	}
}

func TestNumber(t *testing.T) {
	for _, x := range []struct {
		value api.Value
		want  int
	}{
		{null(), 0},
		{boolean(0), 0},
		{boolean(1), 1},
		{boolean(-5), -5},
		{number(0), 0},
		{number(-12), -12},
		{number(greatest), greatest},
		{number(greatest + 1), greatest + 1},
		{number(math.MinInt), math.MinInt},
		{text(""), 0},
		{text("0"), 0},
		{text("12"), 12},
		{text("-12"), -12},
		{text("9007199254740991"), greatest},
		{text("-9007199254740991"), -greatest},
		{api.Value{Kind: api.Null, Num: 3, Str: "a"}, 0},
		{api.Value{Kind: api.Bool, Num: 1, Str: "7"}, 1},
		{api.Value{Kind: api.Number, Num: 3, Str: "7"}, 3},
		{api.Value{Kind: api.String, Num: 3}, 0},
		{api.Value{Kind: api.String, Num: 3, Str: "7"}, 7},
	} {
		if got, ok := Number(x.value); got != x.want || !ok {
			t.Errorf("P402: Number(%+v) = %d, %v, want %d, true", x.value, got, ok, x.want)
		}
	}
}

func TestNumberOfOtherStrings(t *testing.T) {
	for _, s := range []string{" ", "a", "01", "-0", "+1", " 1", "1 ", "1.0", "1e3", "0x1", "9007199254740992", "-9007199254740992", "99999999999999999999", "true", "null", "undefined", "\x00", "\xff", "１", high, strings.Repeat("1", 100000)} {
		if got, ok := Number(text(s)); got != 0 || ok {
			t.Errorf("P402: Number of the string %.40q is %d, %v, want none", s, got, ok)
		}
	}
}

func TestNumberOfOthers(t *testing.T) {
	for _, kind := range append(unknownKinds(), api.Undefined, api.Symbol, api.Object) {
		for _, n := range someNums() {
			for _, s := range []string{"", "7", "a"} {
				v := api.Value{Kind: kind, Num: n, Str: s}
				if got, ok := Number(v); got != 0 || ok {
					t.Errorf("P402: Number(%+v) = %d, %v, want none", v, got, ok)
				}
			}
		}
	}
}

func TestShow(t *testing.T) {
	for _, x := range []struct {
		value        api.Value
		want, called string
	}{
		{undefined(), "undefined", "undefined"},
		{null(), "null", "null"},
		{boolean(0), "false", "false"},
		{boolean(1), "true", "true"},
		{boolean(7), "true", "true"},
		{number(0), "0", "0"},
		{number(-12), "-12", "-12"},
		{number(math.MaxInt), "9223372036854775807", "9223372036854775807"},
		{text(""), `""`, `""`},
		{text("undefined"), `"undefined"`, `"undefined"`},
		{text(`\n`), `"\u005cn"`, `"\u005cn"`},
		{text("\n\x00\x1f ~\x7f"), `"\u000a\u0000\u001f ~\u007f"`, `"\u000a\u0000\u001f ~\u007f"`},
		{text("'`/é"), "\"'`/\\u00e9\"", "\"'`/\\u00e9\""},
		{text("\uFFFD\uABCD"), `"\ufffd\uabcd"`, `"\ufffd\uabcd"`},
		{text("a" + smiling + "b"), `"a\ud83d\ude00b"`, `"a\ud83d\ude00b"`},
		{text(low + high + "\uFFFD" + high), `"\ude00\ud83d\ufffd\ud83d"`, `"\ude00\ud83d\ufffd\ud83d"`},
		{symbol(1), "symbol", "symbol"},
		{symbol(-1), "symbol", "symbol"},
		{object(0), "object", "function"},
		{object(-7), "object", "function"},
		{api.Value{Kind: api.Undefined, Num: 3, Str: "a"}, "undefined", "undefined"},
		{api.Value{Kind: api.String, Num: 3, Str: "a"}, `"a"`, `"a"`},
	} {
		if got := Show(x.value, false); got != x.want {
			t.Errorf("P402: Show(%+v, false) = %q, want %q", x.value, got, x.want)
		}
		if got := Show(x.value, true); got != x.called {
			t.Errorf("P402: Show(%+v, true) = %q, want %q", x.value, got, x.called)
		}
	}
	for _, kind := range unknownKinds() {
		v := api.Value{Kind: kind, Num: 1, Str: "a"}
		if Show(v, false) != "" || Show(v, true) != "" {
			t.Errorf("P402: of the unknown kind %d, Show is %q or %q", kind, Show(v, false), Show(v, true))
		}
	}
}

func TestShowOfEachUnit(t *testing.T) {
	for u := range 0x10000 {
		checkShown(t, uint16(u))
		checkShown(t, 'a', uint16(u), 'b')
	}
}

func TestShowOfEachCodePointAboveUnits(t *testing.T) {
	for p := rune(0x10000); p <= utf8.MaxRune; p++ {
		a, b := utf16.EncodeRune(p)
		want := `"\u` + strconv.FormatInt(int64(a), 16) + `\u` + strconv.FormatInt(int64(b), 16) + `"`
		if got := Show(text(string(p)), false); got != want {
			t.Fatalf("P402: Show of the code point %#x is %s, want %s", p, got, want)
		}
	}
}

func TestShowOfShortSequencesOfUnits(t *testing.T) {
	edges := []uint16{0, 31, ' ', '"', '\\', 'u', 126, 127, 0x80, 0x7FF, 0x800, 0xD7FF, 0xD800, 0xDBFF, 0xDC00, 0xDFFF, 0xE000, 0xFFFD, 0xFFFF}
	for _, a := range edges {
		for _, b := range edges {
			checkShown(t, a, b)
			for _, c := range edges {
				checkShown(t, a, b, c)
				checkShown(t, a, b, c, a)
			}
		}
	}
}

func TestShowOfInvalidStringsHasNoUnits(t *testing.T) {
	for _, s := range invalidTexts() {
		for _, v := range []api.Value{text(s), text("a" + s), text(s + "a")} {
			if got := Show(v, false); got != `""` {
				t.Errorf("P402: Show of %q is %s, want two quotes", v.Str, got)
			}
		}
	}
}

func TestShowOfLongStrings(t *testing.T) {
	u := make([]uint16, 0, 5*maxUnits)
	for i := range cap(u) {
		u = append(u, uint16(i*7919))
	}
	s := encoded(u...)
	var want strings.Builder
	for _, x := range u {
		one := shown(x)
		want.WriteString(one[1 : len(one)-1])
	}
	if got := Show(text(s), true); got != `"`+want.String()+`"` {
		t.Errorf("P402: Show of a string of %d units has %d bytes, want %d, or others", len(u), len(got), want.Len()+2)
	}
}

func TestShowIsPrintable(t *testing.T) {
	unprintable := func(r rune) bool { return r < 32 || r > 126 }
	for _, v := range pool() {
		if got := Show(v, false); strings.ContainsFunc(got, unprintable) {
			t.Fatalf("P402: Show(%+v) = %q", v, got)
		}
	}
}

func TestResultsDependOnlyOnArguments(t *testing.T) {
	calls := func(v api.Value) string {
		s, isText := Text(v)
		n, isNumber := Number(v)
		return fmt.Sprint(Right(v), Same(v, text("a")), Truth(v), Type(v, true), s, isText, n, isNumber, Show(v, false), Show(v, true))
	}
	list := pool()
	var first []string
	for _, v := range list {
		first = append(first, calls(v))
	}
	for i, v := range slices.Backward(list) {
		if again := calls(v); again != first[i] {
			t.Fatalf("P403: of %+v: %s, then %s", v, first[i], again)
		}
	}
}

func TestExample(t *testing.T) {
	if got := Show(text(`a"`), false); got != `"a\u0022"` {
		t.Errorf("P402: Show of the string a\" is %s", got)
	}
}
