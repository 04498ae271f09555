package ops

import (
	"fmt"
	"math/big"
	"math/rand"
	"slices"
	"strings"
	"testing"
	"unicode/utf16"
	"unicode/utf8"

	"understudy/api"
)

// This file says the chapter again, with units in lists and big numbers.

// told returns the start of what is asked, since strings may be long.
func told(op string, a, b api.Value) string {
	return fmt.Sprintf("%s %.20q %s", short(a), op, short(b))
}

func short(v api.Value) string { return fmt.Sprintf("{%d %d %.40q}", v.Kind, v.Num, v.Str) }

// unitsOf returns the units of s, or false if s is not valid.
func unitsOf(s string) ([]uint16, bool) {
	var list []uint16
	for rest := s; rest != ""; {
		if p, n := utf8.DecodeRuneInString(rest); p != utf8.RuneError || n > 1 {
			list, rest = utf16.AppendRune(list, p), rest[n:]
			continue
		}
		if len(rest) < 3 || rest[0] != 0xED || rest[1] < 0xA0 || rest[1] > 0xBF || rest[2] < 0x80 || rest[2] > 0xBF {
			return nil, false
		}
		list = append(list, 0xD000+uint16(rest[1]-0x80)*64+uint16(rest[2]-0x80))
		rest = rest[3:]
	}
	return list, encoded(list...) == s
}

// encoded is the valid string that has the units u.
func encoded(u ...uint16) string {
	var out []byte
	for i := 0; i < len(u); i++ {
		p := rune(u[i])
		if i+1 < len(u) {
			if pair := utf16.DecodeRune(p, rune(u[i+1])); pair != utf8.RuneError {
				out = utf8.AppendRune(out, pair)
				i++
				continue
			}
		}
		if utf16.IsSurrogate(p) {
			out = append(out, 0xED, byte(0x80|p>>6&0x3F), byte(0x80|p&0x3F))
		} else {
			out = utf8.AppendRune(out, p)
		}
	}
	return string(out)
}

func isSafe(n *big.Int) bool { return n.CmpAbs(big.NewInt(greatest)) <= 0 }

func isRight(v api.Value) bool {
	num, str := v.Num, v.Str
	v.Num, v.Str = 0, ""
	switch v.Kind {
	case api.Undefined, api.Null:
		return num == 0 && str == ""
	case api.Bool:
		return (num == 0 || num == 1) && str == ""
	case api.Number:
		return isSafe(big.NewInt(int64(num))) && str == ""
	case api.String:
		u, ok := unitsOf(str)
		return ok && len(u) <= maxUnits && num == 0
	case api.Symbol:
		return num > 0 && str == ""
	case api.Object:
		return num >= 0 && str == ""
	}
	return false
}

func wantedText(v api.Value) (string, bool) {
	switch v.Kind {
	case api.Undefined:
		return "undefined", true
	case api.Null:
		return "null", true
	case api.Bool:
		return []string{"false", "true"}[v.Num], true
	case api.Number:
		return fmt.Sprint(v.Num), true
	case api.String:
		return v.Str, true
	}
	return "", false
}

func wantedNumber(v api.Value) (*big.Int, bool) {
	switch v.Kind {
	case api.Null:
		return new(big.Int), true
	case api.Bool, api.Number:
		return big.NewInt(int64(v.Num)), true
	case api.String:
		if v.Str == "" {
			return new(big.Int), true
		}
		n, ok := new(big.Int).SetString(v.Str, 10)
		return n, ok && isSafe(n) && n.String() == v.Str
	}
	return nil, false
}

// wanted is what the chapter says of Binary.
func wanted(op string, a, b api.Value) (api.Value, string) {
	if !isRight(a) || !isRight(b) || !slices.Contains(operators(), op) {
		return api.Value{}, "TypeError"
	}
	bothTexts := a.Kind == api.String && b.Kind == api.String
	switch {
	case op == "===" || op == "!==":
		return wantedTruth((a == b) == (op == "===")), ""
	case op == "+" && (a.Kind == api.String || b.Kind == api.String):
		return wantedJoin(a, b)
	case strings.Contains("<>=", op[:1]) && bothTexts:
		u, _ := unitsOf(a.Str)
		v, _ := unitsOf(b.Str)
		return wantedOrder(op, difference(u, v)), ""
	}
	m, ok := wantedNumber(a)
	n, also := wantedNumber(b)
	if !ok || !also {
		return api.Value{}, "TypeError"
	}
	if strings.Contains("<>=", op[:1]) {
		return wantedOrder(op, m.Cmp(n)), ""
	}
	return wantedCalculation(op, m, n)
}

func wantedTruth(yes bool) api.Value {
	if yes {
		return boolean(1)
	}
	return boolean(0)
}

func wantedJoin(a, b api.Value) (api.Value, string) {
	s, ok := wantedText(a)
	t, also := wantedText(b)
	if !ok || !also {
		return api.Value{}, "TypeError"
	}
	u, _ := unitsOf(s)
	v, _ := unitsOf(t)
	if u = append(u, v...); len(u) > maxUnits {
		return api.Value{}, "RangeError"
	}
	return txt(encoded(u...)), ""
}

// difference is that of the first units that differ; without them, that of the
// lengths.
func difference(u, v []uint16) int {
	for i := range min(len(u), len(v)) {
		if u[i] != v[i] {
			return int(u[i]) - int(v[i])
		}
	}
	return len(u) - len(v)
}

func wantedOrder(op string, difference int) api.Value {
	if difference == 0 {
		return wantedTruth(len(op) == 2)
	}
	return wantedTruth((difference < 0) == (op[0] == '<'))
}

func wantedCalculation(op string, m, n *big.Int) (api.Value, string) {
	out := new(big.Int)
	switch {
	case op == "+":
		out.Add(m, n)
	case op == "-":
		out.Sub(m, n)
	case op == "*":
		out.Mul(m, n)
	case n.Sign() == 0:
		return api.Value{}, "RangeError"
	case op == "/":
		out.Quo(m, n)
	case op == "%":
		out.Rem(m, n)
	}
	if !isSafe(out) {
		return api.Value{}, "RangeError"
	}
	return num(int(out.Int64())), ""
}

// wantedMinus is what the chapter says of Minus.
func wantedMinus(a api.Value) (api.Value, string) {
	n, ok := wantedNumber(a)
	if !isRight(a) || !ok {
		return api.Value{}, "TypeError"
	}
	return num(-int(n.Int64())), ""
}

func compareBinary(t *testing.T, op string, a, b api.Value) {
	t.Helper()
	want, wantName := wanted(op, a, b)
	got, name := Binary(op, a, b)
	if got != want || name != wantName {
		t.Fatalf("P1601: %s: %s and %q, want %s and %q", told(op, a, b), short(got), name, short(want), wantName)
	}
	if !isRight(got) {
		t.Fatalf("P1601: %s gives %s, which is not right", told(op, a, b), short(got))
	}
}

func compareAll(t *testing.T, a, b api.Value) {
	t.Helper()
	for _, op := range operators() {
		compareBinary(t, op, a, b)
		compareBinary(t, op, b, a)
	}
}

func TestBinaryOfAllPairs(t *testing.T) {
	list := append(right(), invalid()...)
	for i, a := range list {
		for _, b := range list[:i+1] {
			compareAll(t, a, b)
		}
	}
}

func TestBinaryOfSmallNumbers(t *testing.T) {
	for m := -30; m <= 30; m++ {
		for n := -30; n <= 30; n++ {
			compareAll(t, num(m), num(n))
			compareAll(t, txt(fmt.Sprint(m)), num(n))
		}
	}
}

func TestBinaryOfNumbersNearTheBorders(t *testing.T) {
	var list []int
	for n := range 5 {
		for _, border := range []int{0, 1 << 26, 94906266, 1 << 31, 1 << 32, 1 << 51, 1 << 52, greatest - 2} {
			list = append(list, border+n-2, 2-n-border)
		}
	}
	for _, m := range list {
		for _, n := range list {
			compareAll(t, num(m), num(n))
		}
	}
}

// someUnits are those at which the order of units and that of code points part.
func someUnits() []uint16 {
	return []uint16{0, 'a', 0x7F, 0x80, 0xD7FF, 0xD800, 0xDBFF, 0xDC00, 0xDFFF, 0xE000, 0xFFFD, 0xFFFF}
}

func TestBinaryOfAllShortStrings(t *testing.T) {
	list := []string{""}
	for _, a := range someUnits() {
		list = append(list, encoded(a))
		for _, b := range someUnits() {
			list = append(list, encoded(a, b))
		}
	}
	for _, s := range list {
		for _, r := range list {
			compareAll(t, txt(s), txt(r))
		}
	}
}

func TestBinaryOfStringsMadeByChance(t *testing.T) {
	chance := rand.New(rand.NewSource(16))
	some := func(n int) []uint16 {
		u := make([]uint16, n)
		for i := range u {
			u[i] = someUnits()[chance.Intn(len(someUnits()))]
		}
		return u
	}
	for range 20000 {
		start := some(chance.Intn(6))
		u := append(slices.Clone(start), some(chance.Intn(4))...)
		v := append(slices.Clone(start), some(chance.Intn(4))...)
		compareAll(t, txt(encoded(u...)), txt(encoded(v...)))
	}
	for range 60 {
		start := some(maxUnits/2 - 3 + chance.Intn(4))
		u := append(slices.Clone(start), some(chance.Intn(5))...)
		v := append(slices.Clone(start), some(chance.Intn(5))...)
		compareAll(t, txt(encoded(u...)), txt(encoded(v...)))
	}
}

func TestMinusOfAllValues(t *testing.T) {
	list := append(append(right(), invalid()...), tooLong()...)
	for n := range 3000 {
		list = append(list, num(n), num(-n), num(greatest-n), num(n-greatest), txt(fmt.Sprint(n)), txt(fmt.Sprint(-n)), txt(fmt.Sprint("0", n)))
	}
	for _, a := range list {
		want, wantName := wantedMinus(a)
		if got, name := Minus(a); got != want || name != wantName {
			t.Errorf("P1601: Minus(%s) gives %v and %q, want %v and %q", short(a), got, name, want, wantName)
		}
	}
}
