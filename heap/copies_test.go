package heap

import (
	"slices"
	"testing"

	"understudy/api"
)

// spoil overwrites the lists of x, also behind their ends.
func spoil(x api.Thing) {
	for i := range x.Props[:cap(x.Props)] {
		x.Props[:cap(x.Props)][i] = entry(name("spoilt"), 77)
	}
	for i := range x.Args[:cap(x.Args)] {
		x.Args[:cap(x.Args)][i] = number(77)
	}
}

// roomy is an object whose lists have spare capacity.
func roomy(n int) (x api.Thing, props []api.Entry, args []api.Value) {
	props = []api.Entry{entry(name("a"), n), entry(name("b"), n+1), entry(name("behind"), n+2), entry(name("behind"), n+3)}
	args = []api.Value{number(n), number(n + 1), number(n + 2), number(n + 3)}
	x = full(n)
	x.Props, x.Args = props[:2], args[:2]
	return x, props, args
}

// plain is what roomy(n) comes to.
func plain(n int) api.Thing {
	x := full(n, entry(name("a"), n), entry(name("b"), n+1))
	x.Args = []api.Value{number(n), number(n + 1)}
	return x
}

func TestArgumentsAreCopied(t *testing.T) {
	h := New(2)
	made, _, _ := roomy(3)
	o := mustMake(t, h, made)
	set, _, _ := roomy(5)
	other := mustMake(t, h, api.Thing{})
	if !h.Set(other, set) {
		t.Fatal("P801: Set = false")
	}
	spoil(made)
	spoil(set)
	checkThing(t, h, o, plain(3))
	checkThing(t, h, other, plain(5))
	checkOwn(t, h, o, name("a"), data(3), true)
	checkOwn(t, h, o, name("spoilt"), api.Desc{}, false)
	if got, want := h.Keys(other), []api.Key{name("a"), name("b")}; !slices.Equal(got, want) {
		t.Errorf("P802: Keys = %v, want %v", got, want)
	}
}

func TestArgumentsAreNotModified(t *testing.T) {
	made, props, args := roomy(3)
	_, wantProps, wantArgs := roomy(3)
	h := New(2)
	o, other := mustMake(t, h, made), mustMake(t, h, made)
	h.Set(other, made)
	for _, x := range []int{o, other} {
		h.Put(x, name("a"), data(20))
		h.Put(x, name("c"), data(21))
		h.Drop(x, name("b"))
		h.Put(x, name("b"), data(22))
		h.Keys(x)
		h.Get(x)
	}
	if !slices.Equal(props, wantProps) || !slices.Equal(args, wantArgs) {
		t.Errorf("P802: the arguments became %+v and %+v", props, args)
	}
}

func TestResultsAreCopies(t *testing.T) {
	h := New(1)
	made, _, _ := roomy(3)
	o := mustMake(t, h, made)
	first, _ := h.Get(o)
	second, _ := h.Get(o)
	spoil(first)
	if !same(second, plain(3)) {
		t.Errorf("P802: two results of Get share memory: %+v", second)
	}
	checkThing(t, h, o, plain(3))

	h.Put(o, name("a"), data(30))
	h.Put(o, name("c"), data(31))
	h.Drop(o, name("b"))
	if !same(second, plain(3)) {
		t.Errorf("P802: the object changes a result of Get: %+v", second)
	}

	keys, again := h.Keys(o), h.Keys(o)
	for i := range keys[:cap(keys)] {
		keys[:cap(keys)][i] = name("spoilt")
	}
	want := []api.Key{name("a"), name("c")}
	if got := h.Keys(o); !slices.Equal(got, want) || !slices.Equal(again, want) {
		t.Errorf("P802: after a change of a result: Keys = %v, before %v, want %v", got, again, want)
	}
}

// TestObjectsAreCopies: an object that was made of another's does not follow
// it.
func TestObjectsAreCopies(t *testing.T) {
	h := New(3)
	made, _, _ := roomy(3)
	o := mustMake(t, h, made)
	x, _ := h.Get(o)
	other, third := mustMake(t, h, x), mustMake(t, h, full(1))
	h.Set(third, x)
	h.Put(o, name("a"), data(30))
	h.Drop(other, name("b"))
	checkOwn(t, h, other, name("a"), data(3), true)
	checkOwn(t, h, o, name("b"), data(4), true)
	checkThing(t, h, third, plain(3))
}

func TestTwoHeapsAreIndependent(t *testing.T) {
	for seed := range 20 {
		d := dice(seed)
		one, two := New(3), New(2)
		first, second := &model{room: 3}, &model{room: 2}
		for range 100 {
			together(t, &d, one, first)
			compare(t, two, second)
			together(t, &d, two, second)
			compare(t, one, first)
		}
	}
	one, two := New(1), New(1)
	if one.Symbol() != 1 || one.Symbol() != 2 || two.Symbol() != 1 || one.Symbol() != 3 {
		t.Error("P802: two heaps share their symbols")
	}
}

// TestTheSameCallsGiveTheSame: results depend on the preceding calls alone, and
// asking is none that matters.
func TestTheSameCallsGiveTheSame(t *testing.T) {
	play := func(asked bool) string {
		d := dice(11)
		h, m := New(4), &model{room: 4}
		for range 200 {
			together(t, &d, h, m)
			if asked {
				h.Get(0)
				h.Keys(1)
				h.Own(0, name("a"))
				h.Len()
			}
		}
		out := ""
		for o := range h.Len() {
			x, _ := h.Get(o)
			out += show(x) + show(h.Keys(o))
		}
		return out
	}
	first := play(false)
	if second, third := play(false), play(true); first != second || first != third {
		t.Errorf("P802: the same calls give\n%s\n%s\n%s", first, second, third)
	}
}
