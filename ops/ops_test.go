package ops

import (
	"math"
	"strings"
	"testing"

	"understudy/api"
)

func TestExample(t *testing.T) {
	gives(t, "+", num(1), txt("a"), txt("1a"))
}

func TestEqualityIsThatOfAllFields(t *testing.T) {
	list := right()
	for i, a := range list {
		for j, b := range list {
			b.Str = strings.Clone(b.Str)
			gives(t, "===", a, b, wantedTruth(i == j))
			gives(t, "!==", a, b, wantedTruth(i != j))
		}
	}
}

func TestEqualityConvertsNothing(t *testing.T) {
	for _, x := range []struct{ a, b api.Value }{
		{num(1), txt("1")}, {num(0), txt("")}, {num(0), no()}, {num(1), yes()}, {null(), undefined()}, {null(), num(0)}, {txt("null"), null()}, {txt("true"), yes()},
		{object(1), num(1)}, {symbol(1), object(1)}, {symbol(1), num(1)}, {txt("a"), txt("A")}, {txt("a"), txt("a ")}, {txt("1"), txt("01")}, {txt(smiling), txt(low + high)},
	} {
		gives(t, "===", x.a, x.b, no())
		gives(t, "!==", x.a, x.b, yes())
	}
}

func TestPlusJoinsTexts(t *testing.T) {
	for _, x := range []struct {
		a, b api.Value
		want string
	}{
		{txt("a"), txt("b"), "ab"},
		{txt("b"), txt("a"), "ba"},
		{txt(""), txt(""), ""},
		{txt("a"), txt(""), "a"},
		{txt(""), txt("a"), "a"},
		{txt("1"), txt("2"), "12"},
		{txt("1"), num(2), "12"},
		{num(1), txt("2"), "12"},
		{num(-1), txt(""), "-1"},
		{txt(""), num(0), "0"},
		{num(greatest), txt("0"), "90071992547409910"},
		{txt("x"), undefined(), "xundefined"},
		{undefined(), txt("x"), "undefinedx"},
		{null(), txt("x"), "nullx"},
		{txt("x"), null(), "xnull"},
		{yes(), txt("x"), "truex"},
		{txt("x"), no(), "xfalse"},
		{txt("a\x00é"), txt("\uFFFF\n"), "a\x00é\uFFFF\n"},
		{txt(high), txt(low), smiling},
		{txt("a" + high), txt(low + "b"), "a" + smiling + "b"},
		{txt(low), txt(high), low + high},
		{txt(high), txt(high), high + high},
		{txt(high), txt("x"), high + "x"},
		{txt(high), num(5), high + "5"},
		{null(), txt(low), "null" + low},
	} {
		gives(t, "+", x.a, x.b, txt(x.want))
	}
}

func TestPlusRefusesTextsOfSymbolsAndObjects(t *testing.T) {
	for _, s := range []string{"", "a", "1", strings.Repeat("a", maxUnits)} {
		for _, v := range []api.Value{symbol(1), symbol(7), object(0), object(7)} {
			fails(t, "+", txt(s), v, "TypeError")
			fails(t, "+", v, txt(s), "TypeError")
		}
	}
}

func TestPlusCountsUnits(t *testing.T) {
	a := strings.Repeat("a", maxUnits)
	faces := strings.Repeat(smiling, maxUnits/2)
	for _, x := range []struct {
		a, b api.Value
		ok   bool
	}{
		{txt(a), txt(""), true},
		{txt(""), txt(a), true},
		{txt(a), txt("b"), false},
		{txt("b"), txt(a), false},
		{txt(a), txt(a), false},
		{txt(a[1:]), txt("b"), true},
		{txt(a[1:]), txt("é"), true},
		{txt(a[1:]), txt("\uFFFF"), true},
		{txt(a[1:]), txt(smiling), false},
		{txt(a[2:]), txt(smiling), true},
		{txt(smiling), txt(a[1:]), false},
		{txt(smiling), txt(a[2:]), true},
		{txt(a[:maxUnits/2]), txt(a[:maxUnits/2]), true},
		{txt(a[:maxUnits/2+1]), txt(a[:maxUnits/2]), false},
		{txt(faces), txt(""), true},
		{txt(faces), txt(high), false},
		{txt(faces[len(smiling):]), txt(smiling), true},
		{txt(faces[len(smiling):]), txt(smiling + "a"), false},
		{txt(strings.Repeat("€", maxUnits-1)), txt("€"), true},
		{txt(strings.Repeat("€", maxUnits)), txt("€"), false},
		{txt(a[4:]), null(), true},
		{txt(a[3:]), null(), false},
		{null(), txt(a[4:]), true},
		{null(), txt(a[3:]), false},
		{txt(a[9:]), undefined(), true},
		{txt(a[8:]), undefined(), false},
		{yes(), txt(a[4:]), true},
		{no(), txt(a[4:]), false},
		{txt(a[3:]), num(-12), true},
		{txt(a[3:]), num(1234), false},
		{txt(a), num(0), false},
		// A pair that is made at the seam has two units, although it is one code point.
		{txt(a[2:] + high), txt(low), true},
		{txt(a[1:] + high), txt(low), false},
		{txt(high), txt(low + a[2:]), true},
		{txt(high), txt(low + a[1:]), false},
	} {
		got, name := Binary("+", x.a, x.b)
		if ok := name == ""; ok != x.ok {
			t.Errorf("P1601: %s: error %q", told("+", x.a, x.b), name)
		}
		if !x.ok && (name != "RangeError" || got != api.Value{}) {
			t.Errorf("P1601: %s: %s and %q, want RangeError", told("+", x.a, x.b), short(got), name)
		}
	}
}

func TestCalculations(t *testing.T) {
	for _, x := range []struct {
		op   string
		a, b api.Value
		want int
	}{
		{"+", num(1), num(2), 3},
		{"+", num(5), num(-5), 0},
		{"+", null(), null(), 0},
		{"+", yes(), yes(), 2},
		{"+", null(), num(7), 7},
		{"+", no(), num(-3), -3},
		{"-", num(1), num(2), -1},
		{"-", num(2), num(1), 1},
		{"-", txt("5"), txt("7"), -2},
		{"-", txt("5"), yes(), 4},
		{"-", txt(""), num(1), -1},
		{"-", null(), txt("-9007199254740991"), greatest},
		{"*", num(6), num(-7), -42},
		{"*", txt("6"), txt("7"), 42},
		{"*", txt(""), txt(""), 0},
		{"*", num(-5), num(0), 0},
		{"*", num(94906265), num(94906265), 9007199136250225},
		{"/", num(7), num(2), 3},
		{"/", num(-7), num(2), -3},
		{"/", num(7), num(-2), -3},
		{"/", num(-7), num(-2), 3},
		{"/", num(1), num(2), 0},
		{"/", num(-1), num(2), 0},
		{"/", num(0), num(-2), 0},
		{"/", txt("9"), txt("-3"), -3},
		{"/", num(-greatest), num(-1), greatest},
		{"%", num(7), num(3), 1},
		{"%", num(-7), num(3), -1},
		{"%", num(7), num(-3), 1},
		{"%", num(-7), num(-3), -1},
		{"%", num(-6), num(3), 0},
		{"%", num(2), num(5), 2},
		{"%", txt("8"), txt("5"), 3},
		{"%", num(greatest), yes(), 0},
	} {
		gives(t, x.op, x.a, x.b, num(x.want))
	}
}

func TestCalculationsOutOfRange(t *testing.T) {
	for _, x := range []struct {
		op   string
		a, b api.Value
	}{
		{"+", num(greatest), num(1)},
		{"+", num(greatest), yes()},
		{"+", num(-greatest), num(-1)},
		{"+", num(greatest), num(greatest)},
		{"-", num(-greatest), num(1)},
		{"-", num(greatest), num(-1)},
		{"-", txt("9007199254740991"), txt("-1")},
		{"*", num(greatest), num(2)},
		{"*", num(94906266), num(94906266)},
		{"*", num(1 << 32), num(1 << 32)},
		{"*", num(greatest), num(-greatest)},
		{"/", num(1), num(0)},
		{"/", num(0), num(0)},
		{"/", num(1), null()},
		{"/", num(1), no()},
		{"/", num(1), txt("")},
		{"/", num(1), txt("0")},
		{"%", num(1), num(0)},
		{"%", num(0), null()},
		{"%", txt("1"), txt("")},
	} {
		fails(t, x.op, x.a, x.b, "RangeError")
	}
}

func TestCalculationsWithoutANumber(t *testing.T) {
	for _, op := range []string{"-", "*", "/", "%"} {
		for _, v := range unnumbered() {
			for _, w := range numbered() {
				fails(t, op, v, w, "TypeError")
				fails(t, op, w, v, "TypeError")
			}
			fails(t, op, v, v, "TypeError")
			fails(t, op, v, num(0), "TypeError")
		}
	}
	for _, v := range []api.Value{undefined(), symbol(1), object(0), object(5)} {
		for _, w := range []api.Value{undefined(), null(), yes(), num(0), num(greatest), symbol(1), object(0)} {
			fails(t, "+", v, w, "TypeError")
			fails(t, "+", w, v, "TypeError")
		}
	}
}

// ordered tests all comparisons of a with b, for difference less than, equal to
// or greater than 0 as a is to b.
func ordered(t *testing.T, a, b api.Value, difference int) {
	t.Helper()
	gives(t, "<", a, b, wantedTruth(difference < 0))
	gives(t, ">", a, b, wantedTruth(difference > 0))
	gives(t, "<=", a, b, wantedTruth(difference <= 0))
	gives(t, ">=", a, b, wantedTruth(difference >= 0))
	gives(t, "<", b, a, wantedTruth(difference > 0))
	gives(t, ">", b, a, wantedTruth(difference < 0))
	gives(t, "<=", b, a, wantedTruth(difference >= 0))
	gives(t, ">=", b, a, wantedTruth(difference <= 0))
}

func TestComparisonOfStrings(t *testing.T) {
	list := []string{
		"", "\x00", "\x00a", "-1", "-2", "0", "10", "2", "9", "A", "B", "a", "a\x00", "aa", "ab", "b", "ba", "é", "\uD7FF",
		encoded(0xD800), encoded(0xD800, 'a'), "\U00010000", "\U00010000a", "\U000103FF", encoded(0xD800, 0xE000), "\U00010400", high, high + high, smiling, smiling + "a", smiling + smiling, "\U0010FFFF", low, low + high, encoded(0xDFFF),
		"\uE000", "\uFFFD", "\uFFFF", "\uFFFF\x00",
	}
	for i, s := range list {
		for j, r := range list {
			ordered(t, txt(s), txt(strings.Clone(r)), i-j)
		}
	}
}

func TestComparisonOfLongStrings(t *testing.T) {
	for _, x := range []struct {
		a, b       string
		difference int
	}{
		{strings.Repeat("a", maxUnits), strings.Repeat("a", maxUnits), 0},
		{strings.Repeat("a", maxUnits-1), strings.Repeat("a", maxUnits), -1},
		{strings.Repeat("a", maxUnits-1) + "b", strings.Repeat("a", maxUnits), 1},
		{strings.Repeat("a", maxUnits), "b", -1},
		{strings.Repeat("1", maxUnits), "2", -1},
		{strings.Repeat("a", maxUnits-2) + smiling, strings.Repeat("a", maxUnits-2) + "\uFFFF", -1},
	} {
		ordered(t, txt(x.a), txt(x.b), x.difference)
	}
}

func TestComparisonOfOtherValues(t *testing.T) {
	for _, x := range []struct {
		a, b       api.Value
		difference int
	}{
		{num(1), num(2), -1},
		{num(10), num(9), 1},
		{num(-1), num(-2), 1},
		{num(3), num(3), 0},
		{num(-greatest), num(greatest), -1},
		{num(greatest), num(greatest - 1), 1},
		{txt("10"), num(9), 1},
		{txt("9"), num(10), -1},
		{txt("-1"), num(0), -1},
		{txt(""), num(0), 0},
		{txt(""), num(1), -1},
		{txt("5"), num(5), 0},
		{txt("1"), yes(), 0},
		{txt("0"), null(), 0},
		{null(), num(0), 0},
		{null(), no(), 0},
		{null(), yes(), -1},
		{no(), yes(), -1},
		{yes(), num(2), -1},
		{null(), null(), 0},
		{txt("9007199254740991"), num(greatest), 0},
	} {
		ordered(t, x.a, x.b, x.difference)
	}
}

func TestComparisonWithoutANumber(t *testing.T) {
	for _, op := range []string{"<", ">", "<=", ">="} {
		for _, v := range unnumbered() {
			for _, w := range []api.Value{undefined(), null(), yes(), num(0), num(7), symbol(1), object(0)} {
				fails(t, op, v, w, "TypeError")
				fails(t, op, w, v, "TypeError")
			}
		}
		fails(t, op, txt("a"), symbol(1), "TypeError")
		fails(t, op, txt("1"), object(1), "TypeError")
		fails(t, op, undefined(), txt("1"), "TypeError")
	}
}

func TestArgumentsThatAreNotValid(t *testing.T) {
	good := []api.Value{undefined(), null(), yes(), num(0), num(1), txt(""), txt("1"), txt("a"), symbol(1), object(0)}
	for _, op := range append(operators(), otherOperators()...) {
		for _, v := range invalid() {
			for _, w := range good {
				fails(t, op, v, w, "TypeError")
				fails(t, op, w, v, "TypeError")
			}
			fails(t, op, v, v, "TypeError")
		}
	}
}

func TestStringsThatAreTooLong(t *testing.T) {
	for _, op := range append(operators(), "in", "") {
		for _, v := range tooLong() {
			for _, w := range []api.Value{undefined(), num(0), txt(""), txt("a"), object(0), v} {
				fails(t, op, v, w, "TypeError")
				fails(t, op, w, v, "TypeError")
			}
		}
	}
}

// What is not valid counts before what is out of range.
func TestValidityCountsFirst(t *testing.T) {
	for _, v := range []api.Value{{Kind: api.Number, Str: "0"}, {Kind: api.Null, Num: 1}, {Kind: api.Bool, Str: "a"}, {Kind: api.String, Num: 1, Str: "0"}} {
		for _, op := range []string{"/", "%", "*", "+"} {
			fails(t, op, num(greatest), v, "TypeError")
			fails(t, op, v, num(0), "TypeError")
		}
	}
	fails(t, "+", txt(strings.Repeat("a", maxUnits)), txt("\xff"), "TypeError")
	fails(t, "+", txt(strings.Repeat("a", maxUnits+1)), txt("a"), "TypeError")
	fails(t, "+", txt(strings.Repeat("a", maxUnits+1)), num(1), "TypeError")
}

func TestOtherOperators(t *testing.T) {
	list := []api.Value{undefined(), null(), no(), yes(), num(1), num(0), txt(""), txt("a"), txt("1"), symbol(1), object(0), object(1)}
	for _, op := range otherOperators() {
		for _, a := range list {
			for _, b := range list {
				fails(t, op, a, b, "TypeError")
			}
		}
	}
}

func TestMinus(t *testing.T) {
	for _, x := range []struct {
		a    api.Value
		want int
	}{
		{num(0), 0}, {num(1), -1}, {num(-1), 1}, {num(greatest), -greatest}, {num(-greatest), greatest},
		{null(), 0}, {no(), 0}, {yes(), -1}, {txt(""), 0}, {txt("0"), 0}, {txt("7"), -7}, {txt("-7"), 7}, {txt("-9007199254740991"), greatest},
	} {
		if got, name := Minus(x.a); got != num(x.want) || name != "" {
			t.Errorf("P1601: Minus(%v) gives %v and %q, want the number %d", x.a, got, name, x.want)
		}
	}
}

func TestMinusWithoutANumber(t *testing.T) {
	list := append(append(unnumbered(), invalid()...), tooLong()...)
	list = append(list, undefined(), symbol(1), object(0), txt("a"), txt("-0"), txt("+1"), txt("9007199254740992"), num(math.MinInt))
	for _, v := range list {
		if got, name := Minus(v); got != (api.Value{}) || name != "TypeError" {
			t.Errorf("P1601: Minus(%s) gives %v and %q, want TypeError", short(v), got, name)
		}
	}
}
