package arrays

import (
	"fmt"
	"math"
	"slices"
	"strconv"
	"testing"

	"understudy/api"
	"understudy/keys"
)

const (
	greatestIndex  = 4294967294 // 2^32 - 2
	greatestLength = 4294967295
)

// free is a property that is configurable, fixed one that is not.
func free(name string) api.Entry {
	e := fixed(name)
	e.Desc.Configurable = true
	return e
}

func fixed(name string) api.Entry {
	return api.Entry{Key: api.Key{Str: name}, Desc: api.Desc{
		HasValue: true, Value: api.Value{Kind: api.String, Str: name},
		HasWritable: true, Writable: true,
		HasEnumerable: true, Enumerable: true,
		HasConfigurable: true,
	}}
}

func freeSymbol(n int) api.Entry {
	e := free("")
	e.Key = api.Key{Sym: n}
	return e
}

// pair is a property with functions.
func pair(name string, configurable bool) api.Entry {
	return api.Entry{Key: api.Key{Str: name}, Desc: api.Desc{
		HasGet: true, Get: api.Value{Kind: api.Object, Num: 3}, HasSet: true,
		HasEnumerable:   true,
		HasConfigurable: true, Configurable: configurable,
	}}
}

// stepwise follows the chapter: it deletes one index after the other.
func stepwise(l []api.Entry, to int) ([]api.Entry, int) {
	rest := slices.Clone(l)
	if to < 0 {
		to = 0
	}
	for {
		greatest := -1
		for _, e := range rest {
			if i, ok := keys.Index(e.Key); ok && i >= to && i > greatest {
				greatest = i
			}
		}
		if greatest < 0 {
			return rest, to
		}
		isGreatest := func(e api.Entry) bool {
			i, ok := keys.Index(e.Key)
			return ok && i == greatest
		}
		if slices.ContainsFunc(rest, func(e api.Entry) bool { return isGreatest(e) && !e.Desc.Configurable }) {
			return rest, greatest + 1
		}
		rest = slices.DeleteFunc(rest, isGreatest)
	}
}

func check(t *testing.T, l []api.Entry, to int, want []api.Entry, length int) {
	t.Helper()
	got, n := Cut(l, to)
	if !slices.Equal(got, want) || n != length {
		t.Fatalf("P601: Cut(%s, %d) = %s, %d, want %s, %d", show(l), to, show(got), n, show(want), length)
	}
}

// show writes the keys, with a mark behind those of properties that are not
// configurable.
func show(l []api.Entry) string {
	out := "["
	for _, e := range l {
		out += " " + strconv.Quote(e.Key.Str)
		if e.Key.Sym != 0 {
			out += "@" + strconv.Itoa(e.Key.Sym)
		}
		if !e.Desc.Configurable {
			out += "!"
		}
	}
	return out + " ]"
}

func TestLengthTakesNumbersInTheRange(t *testing.T) {
	for _, n := range []int{0, 1, 2, 9, 10, 1000, math.MaxInt32, math.MaxInt32 + 1, greatestIndex, greatestLength} {
		if got, ok := Length(api.Value{Kind: api.Number, Num: n}); got != n || !ok {
			t.Errorf("P601: Length of %d = %d, %v", n, got, ok)
		}
	}
	for _, n := range []int{-1, -2, math.MinInt32, math.MinInt, greatestLength + 1, greatestLength + 2, 1 << 33, 1 << 53, math.MaxInt} {
		if got, ok := Length(api.Value{Kind: api.Number, Num: n}); got != 0 || ok {
			t.Errorf("P601: Length of %d = %d, %v, want none", n, got, ok)
		}
	}
}

func TestLengthTakesNoOtherKinds(t *testing.T) {
	for kind := -2; kind <= 9; kind++ {
		for _, n := range []int{-1, 0, 1, 5, greatestLength} {
			v := api.Value{Kind: kind, Num: n, Str: "5"}
			want := kind == api.Number && n >= 0
			got, ok := Length(v)
			if ok != want || !ok && got != 0 || ok && got != n {
				t.Errorf("P601: Length(%+v) = %d, %v", v, got, ok)
			}
		}
	}
	for _, v := range []api.Value{{}, {Kind: api.Null}, {Kind: api.Bool, Num: 1}, {Kind: api.String, Str: "1"}, {Kind: math.MaxInt, Num: 1}, {Kind: math.MinInt, Num: 1}} {
		if got, ok := Length(v); got != 0 || ok {
			t.Errorf("P601: Length(%+v) = %d, %v, want none", v, got, ok)
		}
	}
}

func TestCutDeletesFromTheLengthOn(t *testing.T) {
	l := []api.Entry{free("0"), free("1"), free("2"), free("3")}
	check(t, l, 4, l, 4)
	check(t, l, 7, l, 7)
	check(t, l, 3, l[:3], 3)
	check(t, l, 1, l[:1], 1)
	check(t, l, 0, nil, 0)
	check(t, l, -1, nil, 0)
	check(t, l, math.MinInt, nil, 0)
	check(t, l, math.MaxInt, l, math.MaxInt)
	check(t, nil, 3, nil, 3)
	check(t, nil, -3, nil, 0)
	check(t, nil, 0, nil, 0)
}

func TestCutStopsAtPropertiesThatAreNotConfigurable(t *testing.T) {
	l := []api.Entry{free("0"), fixed("1"), free("2"), fixed("3"), free("4"), free("5")}
	check(t, l, 6, l, 6)
	check(t, l, 5, l[:5], 5)
	check(t, l, 4, l[:4], 4)
	for to := 3; to >= -2; to-- {
		check(t, l, to, l[:4], 4)
	}
	check(t, l[:3], 2, l[:2], 2)
	check(t, l[:3], 1, l[:2], 2)
	check(t, l[:3], 0, l[:2], 2)
	check(t, []api.Entry{fixed("0")}, 0, []api.Entry{fixed("0")}, 1)
	check(t, []api.Entry{fixed("0")}, -1, []api.Entry{fixed("0")}, 1)
	check(t, []api.Entry{pair("0", true), pair("1", false), pair("2", true)}, 0, []api.Entry{pair("0", true), pair("1", false)}, 2)
}

func TestCutKeepsTheOrder(t *testing.T) {
	l := []api.Entry{free("9"), free("b"), fixed("2"), free("10"), freeSymbol(1), free("3"), free("a"), free("0")}
	check(t, l, 11, l, 11)
	check(t, l, 10, []api.Entry{free("9"), free("b"), fixed("2"), freeSymbol(1), free("3"), free("a"), free("0")}, 10)
	check(t, l, 9, []api.Entry{free("b"), fixed("2"), freeSymbol(1), free("3"), free("a"), free("0")}, 9)
	check(t, l, 0, []api.Entry{free("b"), fixed("2"), freeSymbol(1), free("a"), free("0")}, 3)
}

func TestCutKeepsWhatHasNoIndex(t *testing.T) {
	l := []api.Entry{
		fixed("length"), free("a"), fixed("b"), free(""), free("07"), fixed("-1"), free("1.5"), free("+1"), free(" 1"),
		free("4294967295"), fixed("4294967296"), free("9007199254740991"), fixed("99999999999999999999"), free("\xff"),
		freeSymbol(1), freeSymbol(-1), {Key: api.Key{Str: "1", Sym: 2}}, {Key: api.Key{Sym: 5}},
	}
	for _, to := range []int{math.MinInt, -1, 0, 1, 5, greatestIndex, greatestLength, math.MaxInt} {
		check(t, l, to, l, max(to, 0))
		check(t, append(slices.Clone(l), fixed("0")), to, append(slices.Clone(l), fixed("0")), max(to, 1))
	}
}

func TestCutAtTheGreatestIndexes(t *testing.T) {
	l := []api.Entry{free("4294967293"), free("4294967294"), free("4294967295")}
	check(t, l, greatestLength+1, l, greatestLength+1)
	check(t, l, greatestLength, l, greatestLength)
	check(t, l, greatestIndex, []api.Entry{l[0], l[2]}, greatestIndex)
	check(t, l, greatestIndex-1, l[2:], greatestIndex-1)
	l = []api.Entry{free("4294967293"), fixed("4294967294"), free("4294967295")}
	for _, to := range []int{greatestLength, greatestIndex, greatestIndex - 1, 5, 0, -1} {
		check(t, l, to, l, greatestLength)
	}
}

func TestCutTreatsPropertiesWithTheSameIndexAlike(t *testing.T) {
	l := []api.Entry{free("1"), free("2"), free("1"), free("3"), free("3")}
	check(t, l, 3, []api.Entry{l[0], l[1], l[2]}, 3)
	check(t, l, 2, []api.Entry{l[0], l[2]}, 2)
	check(t, l, 1, nil, 1)
	for _, l := range [][]api.Entry{
		{free("1"), fixed("2"), free("2")},
		{free("1"), free("2"), fixed("2")},
		{free("2"), fixed("2"), free("2"), free("0")},
	} {
		check(t, append(l, free("3"), free("3")), 0, l, 3)
	}
}

func TestCutGoesByConfigurableAlone(t *testing.T) {
	bare := api.Entry{Key: api.Key{Str: "4"}}
	check(t, []api.Entry{bare}, 2, []api.Entry{bare}, 5)
	bare.Desc.HasConfigurable = true
	check(t, []api.Entry{bare}, 2, []api.Entry{bare}, 5)
	bare.Desc = api.Desc{Configurable: true}
	check(t, []api.Entry{bare}, 2, nil, 2)
	e := free("4")
	e.Desc.Writable, e.Desc.Enumerable = false, false
	check(t, []api.Entry{e}, 2, nil, 2)
}

// everyList calls yield for all lists of at most n of the properties of pool.
func everyList(pool []api.Entry, n int, yield func(l []api.Entry)) {
	var extend func(l []api.Entry)
	extend = func(l []api.Entry) {
		yield(l)
		if len(l) == n {
			return
		}
		for _, e := range pool {
			extend(append(slices.Clip(l), e))
		}
	}
	extend(nil)
}

func TestCutOfAllShortLists(t *testing.T) {
	pool := []api.Entry{free("0"), fixed("0"), free("1"), fixed("1"), free("2"), fixed("2"), free("10"), free("x"), fixed("02")}
	var stopped, deleted int
	everyList(pool, 4, func(l []api.Entry) {
		for to := -1; to <= 4; to++ {
			want, length := stepwise(l, to)
			check(t, l, to, want, length)
			if length != max(to, 0) {
				stopped++
			}
			if len(want) < len(l) {
				deleted++
			}
		}
	})
	if stopped == 0 || deleted == 0 {
		t.Errorf("P601: %d cuts stopped, %d deleted", stopped, deleted)
	}
}

func TestCutOfLongLists(t *testing.T) {
	var l []api.Entry
	for i := range 20000 {
		l = append(l, free(strconv.Itoa((i*7919)%20000)))
	}
	got, n := Cut(l, 5000)
	if len(got) != 5000 || n != 5000 {
		t.Fatalf("P601: Cut of 20000 properties to 5000: %d and the length %d", len(got), n)
	}
	l[12345].Desc.Configurable = false
	stop, _ := keys.Index(l[12345].Key)
	want := slices.DeleteFunc(slices.Clone(l), func(e api.Entry) bool {
		i, _ := keys.Index(e.Key)
		return i > stop
	})
	if got, n := Cut(l, 0); !slices.Equal(got, want) || n != stop+1 {
		t.Fatalf("P601: Cut of 20000 properties, stopped at %d: %d and the length %d", stop, len(got), n)
	}
}

func TestCutLeavesArgumentsAlone(t *testing.T) {
	for to := -1; to <= 6; to++ {
		whole := []api.Entry{free("4"), free("a"), fixed("2"), free("0"), free("5"), free("6"), free("7"), free("8")}
		before := slices.Clone(whole)
		got, _ := Cut(whole[:5], to)
		if !slices.Equal(whole, before) {
			t.Fatalf("P602: Cut to %d changed its argument to %s", to, show(whole))
		}
		for i := range got {
			got[i] = fixed("x")
		}
		_ = append(got, fixed("y"), fixed("z"))
		if !slices.Equal(whole, before) {
			t.Fatalf("P602: the result of Cut to %d shares memory with its argument", to)
		}
	}
}

func TestCutGivesNewMemoryEachTime(t *testing.T) {
	l := []api.Entry{free("0"), free("a"), free("3")}
	one, _ := Cut(l, 2)
	two, _ := Cut(l, 2)
	one[0] = fixed("x")
	_ = append(one[:1], fixed("y"))
	if !slices.Equal(two, l[:2]) {
		t.Errorf("P602: two results share memory: %s", show(two))
	}
}

func TestResultsDependOnlyOnArguments(t *testing.T) {
	pool := []api.Entry{free("0"), fixed("1"), free("2"), free("x")}
	var lists [][]api.Entry
	everyList(pool, 4, func(l []api.Entry) { lists = append(lists, slices.Clone(l)) })
	calls := func(l []api.Entry) string {
		out := ""
		for n := -2; n <= 4; n++ {
			rest, length := Cut(l, n)
			v, ok := Length(api.Value{Kind: api.Number, Num: n * len(l)})
			out += fmt.Sprint(rest, length, v, ok)
		}
		return out
	}
	var first []string
	for _, l := range lists {
		first = append(first, calls(l))
	}
	for i, l := range slices.Backward(lists) {
		if again := calls(l); again != first[i] {
			t.Fatalf("P602: of %s: %s, then %s", show(l), first[i], again)
		}
	}
}

func TestExample(t *testing.T) {
	check(t, nil, 3, nil, 3)
	check(t, []api.Entry{}, 3, nil, 3)
}
