package ops

import (
	"math"
	"strings"
	"testing"

	"understudy/api"
)

const (
	greatest = 9007199254740991 // 2^53 - 1
	maxUnits = 10000
	high     = "\xed\xa0\xbd" // 55357
	low      = "\xed\xb8\x80" // 56832
	smiling  = "\U0001F600"   // both of them
)

func undefined() api.Value { return api.Value{Kind: api.Undefined} }

func null() api.Value { return api.Value{Kind: api.Null} }

func boolean(n int) api.Value { return api.Value{Kind: api.Bool, Num: n} }

func num(n int) api.Value { return api.Value{Kind: api.Number, Num: n} }

func txt(s string) api.Value { return api.Value{Kind: api.String, Str: s} }

func symbol(n int) api.Value { return api.Value{Kind: api.Symbol, Num: n} }

func object(n int) api.Value { return api.Value{Kind: api.Object, Num: n} }

func yes() api.Value { return boolean(1) }

func no() api.Value { return boolean(0) }

// operators are those of the chapter.
func operators() []string {
	return []string{"===", "!==", "+", "-", "*", "/", "%", "<", ">", "<=", ">="}
}

// otherOperators are no operators of the chapter, though some are of the
// language.
func otherOperators() []string {
	return []string{
		"", " ", "in", "&&", "||", "==", "!=", "!", "=", "typeof", "delete", "?", ":", ",", "**", "++", "--", "+=", "=>", "<>", "<<", ">>", ">>>", "&", "|", "^", "~",
		"====", "!===", "=<", "===\x00", " ===", "+ ", " +", "-\n", "<=>", "add", "Plus", "\xff", "＋", "−", "×", "≤", strings.Repeat("+", 100000),
	}
}

// invalid are values that are not right.
func invalid() []api.Value {
	list := []api.Value{
		{Kind: api.Undefined, Num: 1}, {Kind: api.Undefined, Str: "a"}, {Kind: api.Null, Num: -1}, {Kind: api.Null, Str: "0"},
		boolean(2), boolean(-1), {Kind: api.Bool, Num: 1, Str: "true"},
		num(greatest + 1), num(-greatest - 1), num(math.MaxInt), num(math.MinInt), {Kind: api.Number, Num: 1, Str: "1"}, {Kind: api.Number, Str: " "},
		{Kind: api.String, Num: 1}, {Kind: api.String, Num: 1, Str: "1"}, {Kind: api.String, Num: -1, Str: "a"},
		symbol(0), symbol(-1), {Kind: api.Symbol, Num: 1, Str: "a"},
		object(-1), object(math.MinInt), {Kind: api.Object, Str: "a"},
	}
	for _, s := range []string{"\xff", "a\x80", "1\xc3", "\xc0\x80", "\xf4\x90\x80\x80", high + low, high[:2], "x" + high + low + "y"} {
		list = append(list, txt(s))
	}
	for _, kind := range []int{-1, -6, 7, 8, 100, math.MaxInt, math.MinInt} {
		list = append(list, api.Value{Kind: kind}, api.Value{Kind: kind, Num: 1}, api.Value{Kind: kind, Str: "1"})
	}
	return list
}

// tooLong are strings that are not right for their length alone, or for a fault
// at the end of it.
func tooLong() []api.Value {
	return []api.Value{
		txt(strings.Repeat("a", maxUnits+1)), txt(strings.Repeat("1", maxUnits+1)), txt(strings.Repeat(high, maxUnits+1)), txt(strings.Repeat(smiling, maxUnits/2) + "a"), txt(strings.Repeat(smiling, maxUnits)),
		txt(strings.Repeat("€", 30*maxUnits)), txt(strings.Repeat("a", maxUnits-1) + "\xff"),
	}
}

// someTexts are valid strings, with and without a number.
func someTexts() []string {
	return []string{
		"", "0", "1", "-1", "2", "5", "10", "9", "-40", "9007199254740991", "-9007199254740991", "9007199254740992", "-9007199254740992", "18446744073709551617",
		"01", "-0", "+1", " 1", "1 ", "1.0", "1e3", "0x10", "١", "-", " ", "\n", "\x00", "a", "ab", "b", "A", "true", "false", "null", "undefined", "NaN", "é", "\uD7FF", "\uE000", "\uFFFD", "\uFFFF",
		smiling, "\U0010FFFF", "\U00010000", high, low, low + high, high + high, "a" + high, low + "b",
		strings.Repeat("a", maxUnits-1), strings.Repeat("1", maxUnits), strings.Repeat(smiling, maxUnits/2),
	}
}

// right are values of all kinds that are right.
func right() []api.Value {
	list := []api.Value{undefined(), null(), no(), yes(), symbol(1), symbol(2), symbol(math.MaxInt), object(0), object(1), object(2), object(math.MaxInt)}
	for _, n := range []int{0, 1, -1, 2, -2, 3, 7, -7, 10, -40, 94906265, 94906266, -94906266, 1 << 32, -1 << 32, 1 << 52, greatest - 1, greatest, 1 - greatest, -greatest} {
		list = append(list, num(n))
	}
	for _, s := range someTexts() {
		list = append(list, txt(s))
	}
	return list
}

// numbered are the values of right that have a number, and unnumbered those
// that have none.
func numbered() []api.Value { return having(true) }

func unnumbered() []api.Value { return having(false) }

func having(number bool) []api.Value {
	var list []api.Value
	for _, v := range right() {
		if _, ok := wantedNumber(v); ok == number {
			list = append(list, v)
		}
	}
	return list
}

// gives tests that op has the result want on a and b.
func gives(t *testing.T, op string, a, b, want api.Value) {
	t.Helper()
	if got, name := Binary(op, a, b); got != want || name != "" {
		t.Errorf("P1601: %s: %s and %q, want %s", told(op, a, b), short(got), name, short(want))
	}
}

// fails tests that op gives no result on a and b, but an error.
func fails(t *testing.T, op string, a, b api.Value, want string) {
	t.Helper()
	if got, name := Binary(op, a, b); got != (api.Value{}) || name != want {
		t.Errorf("P1601: %s: %s and %q, want %s", told(op, a, b), short(got), name, want)
	}
}
