package heap

import (
	"fmt"
	"math"
	"slices"
	"strconv"
	"testing"

	"understudy/api"
	"understudy/keys"
)

func name(s string) api.Key { return api.Key{Str: s} }

func sym(n int) api.Key { return api.Key{Sym: n} }

func number(n int) api.Value { return api.Value{Kind: api.Number, Num: n} }

func data(n int) api.Desc {
	return api.Desc{
		HasValue: true, Value: number(n),
		HasWritable: true, Writable: n%2 == 0,
		HasEnumerable: true, Enumerable: n%3 == 0,
		HasConfigurable: true, Configurable: n%5 == 0,
	}
}

func entry(k api.Key, n int) api.Entry { return api.Entry{Key: k, Desc: data(n)} }

// full is an object with something in each of its fields.
func full(n int, props ...api.Entry) api.Thing {
	text := strconv.Itoa(n)
	return api.Thing{
		Kind: n, Proto: api.Value{Kind: api.Object, Num: n}, Extensible: n%2 == 0, Props: props,
		Code: n + 1, N: n + 2, V: api.Value{Kind: api.String, Str: text},
		Target: api.Value{Kind: api.Object, Num: n + 3}, Handler: api.Value{Kind: api.Object, Num: n + 4},
		This: number(n + 5), Args: []api.Value{number(n + 6), {Kind: api.String, Str: text}},
		Calls: n%2 == 1, Makes: n%3 == 0, Env: n + 7,
	}
}

// same takes lists that are nil and lists that are empty for the same.
func same(a, b api.Thing) bool { return show(a) == show(b) }

func show(x any) string { return fmt.Sprintf("%+v", x) }

func mustMake(t *testing.T, h *Heap, thing api.Thing) int {
	t.Helper()
	want := h.Len()
	o, ok := h.Make(thing)
	if o != want || !ok {
		t.Fatalf("P801: Make = %d, %v, want %d, true", o, ok, want)
	}
	return o
}

func checkThing(t *testing.T, h *Heap, o int, want api.Thing) {
	t.Helper()
	if got, ok := h.Get(o); !ok || !same(got, want) {
		t.Fatalf("P801: Get(%d) = %+v, %v, want %+v", o, got, ok, want)
	}
	want.Props, want.Args = nil, nil
	if got, ok := h.Head(o); !ok || !same(got, want) {
		t.Fatalf("Head(%d) = %+v, %v, want %+v", o, got, ok, want)
	}
}

func checkOwn(t *testing.T, h *Heap, o int, k api.Key, want api.Desc, exists bool) {
	t.Helper()
	if got, ok := h.Own(o, k); got != want || ok != exists {
		t.Fatalf("P801: Own(%d, %+v) = %+v, %v, want %+v, %v", o, k, got, ok, want, exists)
	}
}

func TestObjectsAreNumberedInTheOrderOfTheirCreation(t *testing.T) {
	h := New(100)
	for n := range 100 {
		if got := h.Len(); got != n {
			t.Fatalf("P801: Len = %d after %d objects", got, n)
		}
		if o, ok := h.Make(full(n)); o != n || !ok {
			t.Fatalf("P801: object %d: Make = %d, %v", n, o, ok)
		}
	}
	for n := range 100 {
		checkThing(t, h, n, full(n))
	}
}

func TestRoom(t *testing.T) {
	for _, x := range []struct{ room, want int }{{0, 0}, {1, 1}, {2, 2}, {9, 9}, {-1, 0}, {-2, 0}, {math.MinInt, 0}, {math.MinInt32, 0}} {
		h := New(x.room)
		for n := range x.want {
			mustMake(t, h, full(n))
		}
		for range 3 {
			if o, ok := h.Make(full(50, entry(name("a"), 1))); o != 0 || ok {
				t.Errorf("P801: in a full heap of %d: Make = %d, %v, want 0, false", x.room, o, ok)
			}
			if got := h.Len(); got != x.want {
				t.Errorf("P801: a full heap of %d: Len = %d, want %d", x.room, got, x.want)
			}
			if _, ok := h.Get(x.want); ok {
				t.Errorf("P801: a full heap of %d has the object %d", x.room, x.want)
			}
		}
		for n := range x.want {
			checkThing(t, h, n, full(n))
		}
	}
}

func TestGreatRoomIsNotTakenAhead(t *testing.T) {
	for _, room := range []int{math.MaxInt32, math.MaxInt - 1, math.MaxInt} {
		h := New(room)
		for n := range 3 {
			mustMake(t, h, full(n))
		}
		checkThing(t, h, 1, full(1))
	}
}

// TestAFullHeapCanBeChanged: room limits objects alone, and dropping makes no
// room for more of them.
func TestAFullHeapCanBeChanged(t *testing.T) {
	h := New(1)
	o := mustMake(t, h, full(1))
	if !h.Set(o, full(2, entry(name("a"), 1))) || !h.Put(o, name("b"), data(2)) || !h.Drop(o, name("a")) {
		t.Error("P801: a full heap does not take changes")
	}
	checkThing(t, h, o, full(2, entry(name("b"), 2)))
	if _, ok := h.Make(full(3)); ok {
		t.Error("P801: a full heap takes another object")
	}
}

func TestObjectsThatDoNotExist(t *testing.T) {
	for made := range 4 {
		h := New(4)
		for n := range made {
			mustMake(t, h, full(n, entry(name("a"), n)))
		}
		for _, o := range []int{made, made + 1, 100, -1, -2, math.MinInt, math.MinInt32, math.MaxInt32, math.MaxInt} {
			if got, ok := h.Get(o); ok || !same(got, api.Thing{}) {
				t.Errorf("P801: of %d objects: Get(%d) = %+v, %v", made, o, got, ok)
			}
			if got, ok := h.Head(o); ok || !same(got, api.Thing{}) {
				t.Errorf("of %d objects: Head(%d) = %+v, %v", made, o, got, ok)
			}
			if d, ok := h.Own(o, name("a")); ok || d != (api.Desc{}) {
				t.Errorf("P801: of %d objects: Own(%d) = %+v, %v", made, o, d, ok)
			}
			if h.Set(o, full(9)) || h.Put(o, name("a"), data(9)) || h.Drop(o, name("a")) {
				t.Errorf("P801: of %d objects: %d takes changes", made, o)
			}
			if l := h.Keys(o); len(l) != 0 {
				t.Errorf("P801: of %d objects: Keys(%d) = %v", made, o, l)
			}
		}
		if h.Len() != made {
			t.Errorf("P801: of %d objects: Len = %d", made, h.Len())
		}
		for n := range made {
			checkThing(t, h, n, full(n, entry(name("a"), n)))
		}
	}
}

func TestSetReplacesAll(t *testing.T) {
	h := New(3)
	for n := range 3 {
		mustMake(t, h, full(n, entry(name("a"), n), entry(name("b"), n)))
	}
	if !h.Set(1, full(8, entry(name("c"), 8), entry(name("b"), 9))) {
		t.Fatal("P801: Set = false")
	}
	checkThing(t, h, 0, full(0, entry(name("a"), 0), entry(name("b"), 0)))
	checkThing(t, h, 1, full(8, entry(name("c"), 8), entry(name("b"), 9)))
	checkThing(t, h, 2, full(2, entry(name("a"), 2), entry(name("b"), 2)))
	checkOwn(t, h, 1, name("a"), api.Desc{}, false)
	checkOwn(t, h, 1, name("b"), data(9), true)
	if got, want := h.Keys(1), []api.Key{name("c"), name("b")}; !slices.Equal(got, want) {
		t.Errorf("P801: after Set: Keys = %v, want %v", got, want)
	}
	if !h.Set(1, api.Thing{}) {
		t.Fatal("P801: Set = false")
	}
	checkThing(t, h, 1, api.Thing{})
	if l := h.Keys(1); len(l) != 0 || h.Len() != 3 {
		t.Errorf("P801: after Set of nothing: Keys = %v, Len = %d", l, h.Len())
	}
}

func TestPutInPlaceAndAfterAllOthers(t *testing.T) {
	h := New(1)
	o := mustMake(t, h, full(1))
	for i, s := range []string{"b", "7", "a", "2"} {
		if !h.Put(o, name(s), data(i)) {
			t.Fatalf("P801: Put of %q = false", s)
		}
	}
	if !h.Put(o, name("7"), data(30)) {
		t.Fatal("P801: Put of a property that exists = false")
	}
	want := []api.Entry{entry(name("b"), 0), entry(name("7"), 30), entry(name("a"), 2), entry(name("2"), 3)}
	checkThing(t, h, o, full(1, want...))
	if !h.Drop(o, name("7")) || !h.Put(o, name("7"), data(40)) {
		t.Fatal("P801: Drop or Put of a property that exists = false")
	}
	want = []api.Entry{entry(name("b"), 0), entry(name("a"), 2), entry(name("2"), 3), entry(name("7"), 40)}
	checkThing(t, h, o, full(1, want...))
}

func TestPutTakesAnyDescriptor(t *testing.T) {
	h := New(1)
	o := mustMake(t, h, api.Thing{})
	for _, d := range []api.Desc{
		{},
		{HasValue: true, HasGet: true},
		{Writable: true, Value: number(3)},
		{HasGet: true, Get: number(1), HasSet: true, Set: api.Value{Kind: 77, Num: -1, Str: "\xff"}},
		data(6),
	} {
		if !h.Put(o, name("a"), d) {
			t.Fatalf("P801: Put of %+v = false", d)
		}
		checkOwn(t, h, o, name("a"), d, true)
	}
}

func TestDropOfEachPlace(t *testing.T) {
	l := []api.Entry{entry(name("a"), 0), entry(name("b"), 1), entry(name("c"), 2), entry(name("d"), 3)}
	for i, e := range l {
		h := New(1)
		o := mustMake(t, h, full(1, l...))
		if !h.Drop(o, e.Key) {
			t.Errorf("P801: Drop of %v = false", e.Key)
		}
		rest := slices.Delete(slices.Clone(l), i, i+1)
		checkThing(t, h, o, full(1, rest...))
		checkOwn(t, h, o, e.Key, api.Desc{}, false)
		if h.Drop(o, e.Key) {
			t.Errorf("P801: a second Drop of %v = true", e.Key)
		}
		for _, left := range rest {
			checkOwn(t, h, o, left.Key, left.Desc, true)
			if !h.Drop(o, left.Key) {
				t.Errorf("P801: Drop of %v = false", left.Key)
			}
		}
		checkThing(t, h, o, full(1))
	}
}

// TestKeysAreTheSameOnlyInAllFields: a symbol is no text, and a text that looks
// like another is another.
func TestKeysAreTheSameOnlyInAllFields(t *testing.T) {
	all := []api.Key{name(""), name("1"), name("01"), name("-1"), name("a"), name("A"), name("a\x00"), name("\xff"), sym(1), sym(2), sym(-1), {Str: "a", Sym: 1}, {Str: "b", Sym: 1}}
	h := New(2)
	o, other := mustMake(t, h, full(1)), mustMake(t, h, full(2))
	for i, k := range all {
		checkOwn(t, h, o, k, api.Desc{}, false)
		if h.Drop(o, k) || !h.Put(o, k, data(i)) {
			t.Errorf("P801: %+v is taken for another key", k)
		}
	}
	for i, k := range all {
		checkOwn(t, h, o, k, data(i), true)
		checkOwn(t, h, other, k, api.Desc{}, false)
	}
	if got, want := h.Keys(o), keys.Order(all); !slices.Equal(got, want) || len(got) != len(all) {
		t.Errorf("P801: Keys = %v, want %v", got, want)
	}
}

func TestOrderOfKeys(t *testing.T) {
	h := New(1)
	o := mustMake(t, h, full(1, entry(sym(4), 0), entry(name("b"), 1), entry(name("10"), 2), entry(name("b"), 3)))
	for _, k := range []api.Key{name("9"), sym(2), name("a"), name("4294967294"), name("4294967295"), name("07"), name("0")} {
		h.Put(o, k, data(1))
	}
	want := []api.Key{name("0"), name("9"), name("10"), name("4294967294"), name("b"), name("a"), name("4294967295"), name("07"), sym(4), sym(2)}
	if got := h.Keys(o); !slices.Equal(got, want) {
		t.Errorf("P801: Keys = %v, want %v", got, want)
	}
	h.Drop(o, sym(4))
	h.Put(o, sym(4), data(2))
	h.Put(o, name("a"), data(2))
	want = append(want[:8:8], sym(2), sym(4))
	if got := h.Keys(o); !slices.Equal(got, want) {
		t.Errorf("P801: after Drop and Put: Keys = %v, want %v", got, want)
	}
}

// TestSeveralPropertiesWithOneKey: the first one is meant, and the next one
// when that is gone.
func TestSeveralPropertiesWithOneKey(t *testing.T) {
	a, b := name("a"), name("b")
	l := []api.Entry{entry(b, 0), entry(a, 1), entry(a, 2), entry(b, 3), entry(a, 4)}
	makers := map[string]func(h *Heap){
		"Make": func(h *Heap) { h.Make(full(1, l...)) },
		"Set":  func(h *Heap) { h.Make(full(2, entry(a, 9))); h.Set(0, full(1, l...)) },
	}
	for how, fill := range makers {
		h := New(1)
		fill(h)
		step := func(what string, ok, want bool, rest ...api.Entry) {
			t.Helper()
			if ok != want {
				t.Fatalf("P801: by %s: %s = %v", how, what, ok)
			}
			checkThing(t, h, 0, full(1, rest...))
		}
		checkOwn(t, h, 0, a, data(1), true)
		checkOwn(t, h, 0, b, data(0), true)
		step("Put", h.Put(0, a, data(20)), true, entry(b, 0), entry(a, 20), entry(a, 2), entry(b, 3), entry(a, 4))
		checkOwn(t, h, 0, a, data(20), true)
		step("Drop", h.Drop(0, a), true, entry(b, 0), entry(a, 2), entry(b, 3), entry(a, 4))
		checkOwn(t, h, 0, a, data(2), true)
		step("Drop", h.Drop(0, b), true, entry(a, 2), entry(b, 3), entry(a, 4))
		checkOwn(t, h, 0, b, data(3), true)
		step("Drop", h.Drop(0, a), true, entry(b, 3), entry(a, 4))
		step("Put", h.Put(0, a, data(30)), true, entry(b, 3), entry(a, 30))
		step("Drop", h.Drop(0, a), true, entry(b, 3))
		step("Drop", h.Drop(0, a), false, entry(b, 3))
		step("Put", h.Put(0, a, data(40)), true, entry(b, 3), entry(a, 40))
		if got, want := h.Keys(0), []api.Key{b, a}; !slices.Equal(got, want) {
			t.Errorf("P801: by %s: Keys = %v, want %v", how, got, want)
		}
	}
}

func TestSymbolsAreCounted(t *testing.T) {
	h := New(1)
	for n := 1; n <= 100; n++ {
		if got := h.Symbol(); got != n {
			t.Fatalf("P801: the symbol %d is %d", n, got)
		}
		// Nothing else uses a number up, not even a symbol among the keys.
		h.Make(full(n, entry(sym(n+7), n)))
		h.Put(0, sym(n+5), data(n))
		h.Set(0, full(n))
	}
}
