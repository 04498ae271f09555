package keys

import (
	"fmt"
	"math"
	"math/big"
	"slices"
	"strings"
	"testing"

	"understudy/api"
)

const (
	greatestIndex = 4294967294 // 2^32 - 2
	greatestSafe  = 9007199254740991
)

func name(s string) api.Key { return api.Key{Str: s} }

func sym(n int) api.Key { return api.Key{Sym: n} }

func names(l ...string) []api.Key {
	var out []api.Key
	for _, s := range l {
		out = append(out, name(s))
	}
	return out
}

// wantedIndex is the chapter's index of the string s, by its letters and big
// numbers.
func wantedIndex(s string) (int, bool) {
	if s == "" || strings.Trim(s, "0123456789") != "" || s[0] == '0' && s != "0" {
		return 0, false
	}
	n, ok := new(big.Int).SetString(s, 10)
	if !ok || n.Cmp(big.NewInt(greatestIndex)) > 0 {
		return 0, false
	}
	return int(n.Int64()), true
}

// wantedOrder is the chapter's order of l: the first key of those that are
// left goes next, a smaller index before a greater one.
func wantedOrder(l []api.Key) []api.Key {
	var out []api.Key
	left := slices.Clone(l)
	for len(left) > 0 {
		best := 0
		for i := range left {
			if before(left[i], left[best]) {
				best = i
			}
		}
		next := left[best]
		out = append(out, next)
		left = slices.DeleteFunc(left, func(k api.Key) bool { return k == next })
	}
	return out
}

func before(a, b api.Key) bool {
	if class(a) != class(b) {
		return class(a) < class(b)
	}
	m, _ := wantedIndex(a.Str)
	n, _ := wantedIndex(b.Str)
	return class(a) == 0 && m < n
}

func class(k api.Key) int {
	if k.Sym != 0 {
		return 2
	}
	if _, ok := wantedIndex(k.Str); ok {
		return 0
	}
	return 1
}

func checkIndex(t *testing.T, s string) {
	t.Helper()
	want, wantOK := wantedIndex(s)
	if got, ok := Index(name(s)); got != want || ok != wantOK {
		t.Fatalf("P301: Index of %.40q is %d, %v, want %d, %v", s, got, ok, want, wantOK)
	}
	for _, n := range []int{1, -1, 7} {
		if got, ok := Index(api.Key{Str: s, Sym: n}); got != 0 || ok {
			t.Fatalf("P301: Index of the symbol %d with the text %.40q is %d, %v", n, s, got, ok)
		}
	}
}

func checkOrder(t *testing.T, l []api.Key) {
	t.Helper()
	if got, want := Order(l), wantedOrder(l); !slices.Equal(got, want) {
		t.Fatalf("P301: Order(%v) = %v, want %v", l, got, want)
	}
}

func TestIndexAtTheBorders(t *testing.T) {
	for _, x := range []struct {
		text string
		want int
		ok   bool
	}{
		{"0", 0, true},
		{"1", 1, true},
		{"9", 9, true},
		{"10", 10, true},
		{"2147483647", 1<<31 - 1, true},
		{"2147483648", 1 << 31, true},
		{"4294967293", greatestIndex - 1, true},
		{"4294967294", greatestIndex, true},
		{"4294967295", 0, false},
		{"4294967296", 0, false},
		{"4294967297", 0, false},
		{"8589934592", 0, false},
		{"9007199254740991", 0, false},
		{"9007199254740992", 0, false},
		{"9223372036854775807", 0, false},
		{"9223372036854775808", 0, false},
		{"18446744073709551616", 0, false},
		{"18446744073709551617", 0, false},
		{"-1", 0, false},
		{"-4294967294", 0, false},
		{"-4294967295", 0, false},
		{"-18446744073709551615", 0, false},
	} {
		if got, ok := Index(name(x.text)); got != x.want || ok != x.ok {
			t.Errorf("P301: Index of %q is %d, %v, want %d, %v", x.text, got, ok, x.want, x.ok)
		}
		checkIndex(t, x.text)
	}
}

func TestIndexOfOtherSpellings(t *testing.T) {
	for _, s := range []string{
		"", "07", "00", "01", "0000000000", "04294967294", "-0", "-01", "+0", "+1", " 1", "1 ", "\t1", "1\n", "1.0", "1.", ".5", "1e3", "1E3", "0x10", "0b1",
		"1_000", "1,000", "1n", "a", "1a", "a1", "NaN", "Infinity", "length", "true", "undefined", "\x00", "1\x00", "\xff", "1\xff", "\xed\xa0\x80", "１", "٣", "−1",
		strings.Repeat("0", 100000) + "1", strings.Repeat("1", 100000), strings.Repeat("x", 100000),
	} {
		if got, ok := Index(name(s)); got != 0 || ok {
			t.Errorf("P301: Index of %.40q is %d, %v, want 0, false", s, got, ok)
		}
		checkIndex(t, s)
	}
}

func TestIndexOfAllShortStrings(t *testing.T) {
	letters := "0129+-. _exX\x00"
	for _, a := range letters {
		for _, b := range letters {
			for _, c := range letters {
				s := string([]rune{a, b, c})
				checkIndex(t, s)
				checkIndex(t, s[1:])
				checkIndex(t, s[2:])
			}
		}
	}
	for n := range 2000 {
		checkIndex(t, fmt.Sprint(n))
		checkIndex(t, fmt.Sprint(greatestIndex-1000+n))
	}
}

func TestIndexOfSymbols(t *testing.T) {
	for _, k := range []api.Key{sym(1), sym(5), sym(-1), sym(math.MaxInt), sym(math.MinInt), {Str: "5", Sym: 1}, {Str: "0", Sym: -1}} {
		if got, ok := Index(k); got != 0 || ok {
			t.Errorf("P301: Index(%v) = %d, %v, want 0, false", k, got, ok)
		}
	}
}

func TestOrderOfNamedLists(t *testing.T) {
	for _, x := range []struct{ list, want []api.Key }{
		{nil, nil},
		{[]api.Key{}, nil},
		{names("b", "a"), names("b", "a")},
		{names("b", "a", "b", "a", "c"), names("b", "a", "c")},
		{names("2", "10", "1"), names("1", "2", "10")},
		{names("10", "9", "4294967294", "0", "10"), names("0", "9", "10", "4294967294")},
		{names("x", "1", "-1", "01", "0"), names("0", "1", "x", "-1", "01")},
		{names("4294967296", "4294967295", "4294967294", "3"), names("3", "4294967294", "4294967296", "4294967295")},
		{names("", "0", ""), names("0", "")},
		{
			[]api.Key{sym(3), name("b"), sym(1), name("7"), name("a"), sym(3), name("b"), name("3"), sym(2)},
			[]api.Key{name("3"), name("7"), name("b"), name("a"), sym(3), sym(1), sym(2)},
		},
		{
			[]api.Key{sym(-1), name(""), sym(math.MaxInt), sym(math.MinInt), sym(-1)},
			[]api.Key{name(""), sym(-1), sym(math.MaxInt), sym(math.MinInt)},
		},
		{
			[]api.Key{{Str: "5", Sym: 2}, {Str: "5"}, {Sym: 2}, {Str: "4", Sym: 2}, {Str: "5", Sym: 2}},
			[]api.Key{{Str: "5"}, {Str: "5", Sym: 2}, {Sym: 2}, {Str: "4", Sym: 2}},
		},
		{names("\xff", "\xed\xa0\x80", "\x00", "\xff"), names("\xff", "\xed\xa0\x80", "\x00")},
	} {
		if got := Order(x.list); !slices.Equal(got, x.want) {
			t.Errorf("P301: Order(%v) = %v, want %v", x.list, got, x.want)
		}
		checkOrder(t, x.list)
	}
}

func TestOrderOfAllShortLists(t *testing.T) {
	pool := []api.Key{name("10"), name("9"), name("z"), name("01"), sym(2), sym(1), {Str: "9", Sym: 1}}
	lists := [][]api.Key{nil}
	for range 5 {
		var longer [][]api.Key
		for _, l := range lists {
			for _, k := range pool {
				longer = append(longer, append(slices.Clone(l), k))
			}
		}
		lists = longer
		for _, l := range lists {
			checkOrder(t, l)
		}
	}
}

func TestOrderOfLongLists(t *testing.T) {
	var list, want []api.Key
	for i := range 10000 {
		n := i * 7919 % 10000
		list = append(list, name(fmt.Sprint(n)), sym(n+1), name(fmt.Sprint("k", n)))
	}
	list = append(list, list...)
	for i := range 10000 {
		want = append(want, name(fmt.Sprint(i)))
	}
	for i := range 10000 {
		want = append(want, name(fmt.Sprint("k", i*7919%10000)))
	}
	for i := range 10000 {
		want = append(want, sym(i*7919%10000+1))
	}
	got := Order(list)
	if !slices.Equal(got, want) {
		t.Fatalf("P301: Order of a long list gives %d keys, want %d, or another order", len(got), len(want))
	}
	if again := Order(got); !slices.Equal(again, got) {
		t.Errorf("P301: Order changes a list that it made")
	}
}

func TestOf(t *testing.T) {
	for _, x := range []struct {
		value api.Value
		want  api.Key
	}{
		{api.Value{}, name("undefined")},
		{api.Value{Kind: api.Undefined}, name("undefined")},
		{api.Value{Kind: api.Null}, name("null")},
		{api.Value{Kind: api.Bool, Num: 0}, name("false")},
		{api.Value{Kind: api.Bool, Num: 1}, name("true")},
		{api.Value{Kind: api.Bool, Num: 2}, name("true")},
		{api.Value{Kind: api.Bool, Num: -1}, name("true")},
		{api.Value{Kind: api.Bool, Num: math.MinInt}, name("true")},
		{api.Value{Kind: api.Number, Num: 0}, name("0")},
		{api.Value{Kind: api.Number, Num: 7}, name("7")},
		{api.Value{Kind: api.Number, Num: -12}, name("-12")},
		{api.Value{Kind: api.Number, Num: greatestSafe}, name("9007199254740991")},
		{api.Value{Kind: api.Number, Num: greatestSafe + 1}, name("9007199254740992")},
		{api.Value{Kind: api.Number, Num: math.MinInt}, name("-9223372036854775808")},
		{api.Value{Kind: api.String}, name("")},
		{api.Value{Kind: api.String, Str: "a"}, name("a")},
		{api.Value{Kind: api.String, Str: "007"}, name("007")},
		{api.Value{Kind: api.String, Str: "\xed\xa0\x80\x00é"}, name("\xed\xa0\x80\x00é")},
		{api.Value{Kind: api.String, Str: "\xff"}, name("\xff")},
		{api.Value{Kind: api.Symbol, Num: 1}, sym(1)},
		{api.Value{Kind: api.Symbol, Num: 12345}, sym(12345)},
		{api.Value{Kind: api.Symbol, Num: -3}, sym(-3)},
		{api.Value{Kind: api.Symbol, Num: 0}, sym(0)},
	} {
		if got, ok := Of(x.value); got != x.want || !ok {
			t.Errorf("P301: Of(%#v) = %#v, %v, want %#v, true", x.value, got, ok, x.want)
		}
	}
}

func TestOfIgnoresOtherFields(t *testing.T) {
	for _, x := range []struct {
		value api.Value
		want  api.Key
	}{
		{api.Value{Kind: api.Undefined, Num: 5, Str: "a"}, name("undefined")},
		{api.Value{Kind: api.Null, Num: 5, Str: "a"}, name("null")},
		{api.Value{Kind: api.Bool, Num: 5, Str: "a"}, name("true")},
		{api.Value{Kind: api.Bool, Str: "a"}, name("false")},
		{api.Value{Kind: api.Number, Num: 5, Str: "a"}, name("5")},
		{api.Value{Kind: api.String, Num: 5, Str: "a"}, name("a")},
		{api.Value{Kind: api.Symbol, Num: 5, Str: "a"}, sym(5)},
	} {
		if got, ok := Of(x.value); got != x.want || !ok {
			t.Errorf("P301: Of(%#v) = %#v, %v, want %#v, true", x.value, got, ok, x.want)
		}
	}
}

func TestOfObjectsAndUnknownKinds(t *testing.T) {
	for _, kind := range []int{api.Object, 7, 8, 100, -1, -6, math.MaxInt, math.MinInt} {
		for _, n := range []int{0, 1, -1, 7} {
			for _, s := range []string{"", "a"} {
				v := api.Value{Kind: kind, Num: n, Str: s}
				if got, ok := Of(v); got != (api.Key{}) || ok {
					t.Errorf("P301: Of(%#v) = %#v, %v, want none", v, got, ok)
				}
			}
		}
	}
}

func TestValue(t *testing.T) {
	for _, x := range []struct {
		key  api.Key
		want api.Value
	}{
		{api.Key{}, api.Value{Kind: api.String}},
		{name("a"), api.Value{Kind: api.String, Str: "a"}},
		{name("12"), api.Value{Kind: api.String, Str: "12"}},
		{name("undefined"), api.Value{Kind: api.String, Str: "undefined"}},
		{name("\xff"), api.Value{Kind: api.String, Str: "\xff"}},
		{sym(1), api.Value{Kind: api.Symbol, Num: 1}},
		{sym(math.MaxInt), api.Value{Kind: api.Symbol, Num: math.MaxInt}},
		{sym(-1), api.Value{Kind: api.Symbol, Num: -1}},
		{api.Key{Str: "a", Sym: 4}, api.Value{Kind: api.Symbol, Num: 4}},
	} {
		got := Value(x.key)
		if got != x.want {
			t.Errorf("P301: Value(%#v) = %#v, want %#v", x.key, got, x.want)
		}
		plain := x.key
		if plain.Sym != 0 {
			plain.Str = ""
		}
		if back, ok := Of(got); back != plain || !ok {
			t.Errorf("P301: Of(Value(%#v)) = %#v, %v", x.key, back, ok)
		}
	}
}

func TestSame(t *testing.T) {
	lists := [][]api.Key{
		nil, names("a"), names("b"), names("a", "b"), names("b", "a"), names("a", "a"), names("a", "b", "a"), names(""), names("1"), names("01"),
		{sym(1)}, {sym(2)}, {sym(-1)}, {sym(1), sym(2)}, {sym(2), sym(1)}, {{Str: "a", Sym: 1}}, {{Str: "b", Sym: 1}}, {name("a"), sym(1)}, {sym(1), name("a")},
	}
	for i, a := range lists {
		for j, b := range lists {
			if got := Same(a, slices.Clone(b)); got != (i == j) {
				t.Errorf("P301: Same(%v, %v) = %v", a, b, got)
			}
		}
	}
	if !Same(nil, []api.Key{}) || !Same([]api.Key{}, nil) {
		t.Error("P301: Same tells nil from an empty list")
	}
}

func TestArgumentsAreNotModified(t *testing.T) {
	store := []api.Key{sym(2), name("b"), name("3"), name("1"), name("b"), name("2"), name("spare"), name("0")}
	before := slices.Clone(store)
	Order(store[:6])
	Same(store[:6], store[2:4])
	if !slices.Equal(store, before) {
		t.Errorf("P302: %v became %v", before, store)
	}
}

func TestResultsAreNewlyAllocated(t *testing.T) {
	for _, l := range [][]api.Key{names("1", "2", "3"), names("a", "b"), {sym(1), sym(2)}, {name("1"), name("a"), sym(1)}, {name("a")}} {
		first := Order(l)
		want := slices.Clone(first)
		kept := slices.Clone(l)
		for i := range first[:cap(first)] {
			first[:cap(first)][i] = name("changed")
		}
		if second := Order(l); !slices.Equal(l, kept) || !slices.Equal(second, want) {
			t.Errorf("P302: with its result changed, Order(%v) = %v, want %v", l, second, want)
		}
	}

	l := names("b", "a")
	result := Order(l)
	l[0] = name("z")
	if !slices.Equal(result, names("b", "a")) {
		t.Errorf("P302: Order keeps its argument: %v", result)
	}
}

func TestResultsDependOnlyOnArguments(t *testing.T) {
	calls := func(k api.Key, l []api.Key) string {
		n, index := Index(k)
		v := Value(k)
		back, ok := Of(v)
		return fmt.Sprint(n, index, v, back, ok, Order(append(slices.Clone(l), k)), Same(l, []api.Key{k}))
	}
	list := []api.Key{sym(4), name("x"), name("8"), name("5"), sym(1)}
	for _, k := range []api.Key{{}, name("7"), name("07"), name("x"), sym(1), {Str: "7", Sym: 9}} {
		first := calls(k, list)
		calls(name("6"), []api.Key{sym(9), name("y"), name("3")})
		calls(sym(2), nil)
		if again := calls(k, list); again != first {
			t.Errorf("P302: of %v: %s, then %s", k, first, again)
		}
	}
}

func TestExample(t *testing.T) {
	if n, ok := Index(name("07")); n != 0 || ok {
		t.Errorf("P301: Index of 07 is %d, %v", n, ok)
	}
}
