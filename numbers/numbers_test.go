package numbers

import (
	"fmt"
	"math"
	"math/big"
	"strings"
	"testing"
)

const greatest = 9007199254740991 // 2^53 - 1

// edges are numbers on both sides of every border that matters to a call.
func edges() []int {
	list := []int{0, math.MaxInt, math.MinInt}
	for _, n := range []int{
		1, 2, 3, 7, 9, 10, 11, 99, 100, 101, 1 << 26, 94906265, 94906266, 94906267, 1<<27 - 1, 1 << 27, 1<<32 - 1, 1 << 32,
		3002399751580330, 3002399751580331, greatest / 2, greatest/2 + 1, greatest - 1, greatest, greatest + 1, greatest + 2, 1 << 54, 1 << 62, math.MaxInt - 1, math.MaxInt,
	} {
		list = append(list, n, -n)
	}
	return list
}

// inRange compares big numbers, which share nothing with the package.
func inRange(n *big.Int) bool {
	border := new(big.Int).Lsh(big.NewInt(1), 53)
	return n.CmpAbs(border) < 0
}

// wanted is the chapter's result of the operation op, by big numbers.
func wanted(op string, a, b int) (int, bool) {
	x, y, z := big.NewInt(int64(a)), big.NewInt(int64(b)), new(big.Int)
	if !inRange(x) || !inRange(y) {
		return 0, false
	}
	switch {
	case op == "+":
		z.Add(x, y)
	case op == "-":
		z.Sub(x, y)
	case op == "*":
		z.Mul(x, y)
	case op == "/" && b != 0:
		z.Quo(x, y)
	case op == "%" && b != 0:
		z.Rem(x, y)
	default:
		return 0, false
	}
	if !inRange(z) {
		return 0, false
	}
	return int(z.Int64()), true
}

func checkDo(t *testing.T, op string, a, b int) {
	t.Helper()
	want, wantOK := wanted(op, a, b)
	if got, ok := Do(op, a, b); got != want || ok != wantOK {
		t.Fatalf("P201: Do(%q, %d, %d) = %d, %v, want %d, %v", op, a, b, got, ok, want, wantOK)
	}
}

func checkUnread(t *testing.T, s string) {
	t.Helper()
	if n, ok := Read(s); n != 0 || ok {
		t.Errorf("P201: Read(%.40q) = %d, %v, want 0, false", s, n, ok)
	}
}

func TestSafe(t *testing.T) {
	for _, n := range edges() {
		if want := inRange(big.NewInt(int64(n))); Safe(n) != want {
			t.Errorf("P201: Safe(%d) = %v, want %v", n, Safe(n), want)
		}
	}
	if !Safe(greatest) || !Safe(-greatest) || Safe(greatest+1) || Safe(-greatest-1) {
		t.Errorf("P201: Safe has other borders than %d and %d", -greatest, greatest)
	}
}

func TestDoOfSmallNumbers(t *testing.T) {
	for _, op := range []string{"+", "-", "*", "/", "%"} {
		for a := -40; a <= 40; a++ {
			for b := -40; b <= 40; b++ {
				checkDo(t, op, a, b)
			}
		}
	}
}

func TestDoOfEdges(t *testing.T) {
	for _, op := range []string{"+", "-", "*", "/", "%"} {
		for _, a := range edges() {
			for _, b := range edges() {
				checkDo(t, op, a, b)
			}
		}
	}
}

func TestDoAroundTheBorderOfProducts(t *testing.T) {
	for a := 1; a <= 2000; a++ {
		for b := greatest/a - 2; b <= greatest/a+2; b++ {
			checkDo(t, "*", a, b)
			checkDo(t, "*", -a, b)
			checkDo(t, "*", b, -a)
			checkDo(t, "*", -b, -a)
		}
	}
}

func TestDoOfNamedResults(t *testing.T) {
	for _, x := range []struct {
		op         string
		a, b, want int
		ok         bool
	}{
		{"+", 2, 3, 5, true},
		{"-", 2, 3, -1, true},
		{"*", -4, 5, -20, true},
		{"/", -7, 2, -3, true},
		{"/", 7, -2, -3, true},
		{"/", -7, -2, 3, true},
		{"/", 1, 2, 0, true},
		{"/", -greatest, -1, greatest, true},
		{"%", 7, 3, 1, true},
		{"%", -7, 3, -1, true},
		{"%", 7, -3, 1, true},
		{"%", -7, -3, -1, true},
		{"%", -6, 3, 0, true},
		{"%", 0, 5, 0, true},
		{"/", 1, 0, 0, false},
		{"%", 1, 0, 0, false},
		{"/", 0, 0, 0, false},
		{"%", 0, 0, 0, false},
		{"*", 0, greatest, 0, true},
		{"*", greatest, 1, greatest, true},
		{"*", greatest, -1, -greatest, true},
		{"+", greatest, 0, greatest, true},
		{"+", greatest, 1, 0, false},
		{"+", -greatest, -1, 0, false},
		{"-", -greatest, 1, 0, false},
		{"-", greatest, -1, 0, false},
		{"-", greatest, greatest, 0, true},
		{"*", greatest, 2, 0, false},
		{"*", greatest, greatest, 0, false},
		{"*", 1 << 32, 1 << 32, 0, false},
		{"-", greatest + 1, 1, 0, false},
		{"+", -greatest - 1, 1, 0, false},
		{"/", greatest + 1, 2, 0, false},
		{"/", 1, greatest + 1, 0, false},
		{"%", greatest + 1, 2, 0, false},
		{"%", 1, greatest + 1, 0, false},
		{"*", greatest + 1, 0, 0, false},
		{"*", 0, greatest + 1, 0, false},
		{"/", math.MinInt, -1, 0, false},
		{"%", math.MinInt, -1, 0, false},
	} {
		if got, ok := Do(x.op, x.a, x.b); got != x.want || ok != x.ok {
			t.Errorf("P201: Do(%q, %d, %d) = %d, %v, want %d, %v", x.op, x.a, x.b, got, ok, x.want, x.ok)
		}
	}
}

func TestDoOfOtherOperators(t *testing.T) {
	for _, op := range []string{"", " ", "+ ", " +", "++", "--", "**", "//", "%%", "+=", "=", "<", "&", "|", "^", "!", "×", "−", "\xff", "+\x00", strings.Repeat("+", 1000)} {
		for _, b := range []int{0, 3} {
			if got, ok := Do(op, 12, b); got != 0 || ok {
				t.Errorf("P201: Do(%.20q, 12, %d) = %d, %v, want 0, false", op, b, got, ok)
			}
		}
	}
}

func TestText(t *testing.T) {
	for _, n := range edges() {
		if got, want := Text(n), fmt.Sprintf("%d", n); got != want {
			t.Errorf("P201: Text(%d) = %q, want %q", n, got, want)
		}
	}
	for n := -2000; n <= 2000; n++ {
		if got, want := Text(n), fmt.Sprintf("%d", n); got != want {
			t.Fatalf("P201: Text(%d) = %q, want %q", n, got, want)
		}
	}
	if got := Text(math.MinInt); got != "-9223372036854775808" {
		t.Errorf("P201: Text of the least int is %q", got)
	}
}

func TestReadIsTheInverseOfText(t *testing.T) {
	list := edges()
	for n := -2000; n <= 2000; n++ {
		list = append(list, n)
	}
	for _, n := range list {
		if !inRange(big.NewInt(int64(n))) {
			checkUnread(t, fmt.Sprint(n))
			continue
		}
		if got, ok := Read(fmt.Sprint(n)); got != n || !ok {
			t.Fatalf("P201: Read(%q) = %d, %v", fmt.Sprint(n), got, ok)
		}
	}
}

func TestReadOfOtherSpellings(t *testing.T) {
	for _, s := range []string{
		"", "-", "+", "--1", "+1", "+0", "-0", "00", "01", "-01", "007", " 1", "1 ", "\t1", "1\n", "- 1", "1-", "1+1",
		"1.0", "1.", ".5", "1e3", "1E3", "0x10", "0b1", "0o7", "1_000", "1,000", "1n", "a", "NaN", "Infinity", "true",
		"\x00", "1\x00", "\xff", "\xed\xa0\x80", "１", "٣", "−1",
		"9007199254740992", "-9007199254740992", "09007199254740991", "90071992547409910",
		"9223372036854775807", "9223372036854775808", "-9223372036854775808", "-9223372036854775809",
		"18446744073709551616", "18446744073709551617", "-18446744073709551617", "340282366920938463463374607431768211457",
		strings.Repeat("0", 100000) + "1", strings.Repeat("9", 100000), strings.Repeat("-", 100000), strings.Repeat("1", 100000) + "x",
	} {
		checkUnread(t, s)
	}
}

func TestReadOfAllShortStrings(t *testing.T) {
	texts := map[string]int{}
	for n := -999; n <= 999; n++ {
		texts[fmt.Sprint(n)] = n
	}
	signs := "0129+-. _exX\x00"
	for _, a := range signs {
		for _, b := range signs {
			for _, c := range signs {
				s := string([]rune{a, b, c})
				for _, s := range []string{s, s[1:], s[2:]} {
					want, wantOK := texts[s]
					if got, ok := Read(s); got != want || ok != wantOK {
						t.Fatalf("P201: Read(%q) = %d, %v, want %d, %v", s, got, ok, want, wantOK)
					}
				}
			}
		}
	}
}

func TestResultsDependOnlyOnArguments(t *testing.T) {
	calls := func(a, b int) string {
		out := fmt.Sprint(Safe(a), Text(a))
		for _, op := range []string{"+", "-", "*", "/", "%", "?"} {
			n, ok := Do(op, a, b)
			out += fmt.Sprint(" ", n, ok)
		}
		n, ok := Read(fmt.Sprint(a))
		return out + fmt.Sprint(" ", n, ok)
	}
	for _, a := range edges() {
		first := calls(a, 3)
		calls(greatest, 2)
		calls(0, 0)
		if again := calls(a, 3); again != first {
			t.Errorf("P202: of %d: %s, then %s", a, first, again)
		}
	}
}

func TestTextsAreKeptApart(t *testing.T) {
	first := Text(123456)
	second := Text(-654321)
	if first != "123456" || second != "-654321" {
		t.Errorf("P202: a later Text changed an earlier one: %q, %q", first, second)
	}
}
