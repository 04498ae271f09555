package realm

import (
	"math"
	"slices"
	"testing"

	"understudy/api"
	"understudy/mop"
	"understudy/scope"
)

func TestBuild(t *testing.T) {
	w := empty(t, plenty())
	w.quiet("P1901: Build", func() { w.replies("P1901: Build", w.build(), api.Reply{}) })
	things, constants := first(len(beginning()))
	w.has("P1901: Build", things)
	w.hasNames("P1901: Build", constants)
}

// hasNames checks that scope 0 has these constants and declares nothing else.
func (w world) hasNames(what string, constants map[string]api.Value) {
	w.t.Helper()
	for _, s := range namesToTry() {
		want, declared := constants[s]
		state, set := 0, 3
		if !declared {
			state, set = 1, 1
		}
		if v, n := w.scopes.Get(0, s); v != want || n != state {
			w.t.Fatalf("%s: Get of %q = %+v, %d, want %+v, %d", what, s, v, n, want, state)
		}
		if n := w.scopes.Set(0, s, yes); n != set {
			w.t.Fatalf("%s: Set of %q = %d, want %d", what, s, n, set)
		}
		if w.scopes.Begin(0, s, yes) {
			w.t.Fatalf("%s: Begin of %q is true", what, s)
		}
		if v, n := w.scopes.Get(0, s); v != want || n != state {
			w.t.Fatalf("%s: then Get of %q = %+v, %d, want %+v, %d", what, s, v, n, want, state)
		}
	}
}

// TestRoom: what has been created before the room ends is there, with the
// properties and the constants, and nothing else.
func TestRoom(t *testing.T) {
	all := len(beginning())
	for _, room := range []int{math.MinInt, -all, -1} {
		w := empty(t, api.Bounds{Fuel: 100, Room: room, Deep: 10})
		w.replies("P1901: Build", w.build(), api.Reply{Flow: api.NoRoom})
		w.has("P1901: Build", nil)
		w.hasNames("P1901: Build", nil)
	}
	for room := range all + 10 {
		w := empty(t, api.Bounds{Fuel: 100, Room: room, Deep: 10})
		want := api.Reply{}
		if room < all {
			want.Flow = api.NoRoom
		}
		w.quiet("P1901: Build", func() { w.replies("P1901: Build", w.build(), want) })
		things, constants := first(min(room, all))
		w.has("P1901: Build", things)
		w.hasNames("P1901: Build", constants)
	}
}

// TestConstantsComeBeforeProperties: where there is room for an object and not
// for all of its properties, its name is declared.
func TestConstantsComeBeforeProperties(t *testing.T) {
	for o, x := range beginning() {
		if x.holder != noHolder || x.name == "" {
			continue
		}
		w := empty(t, api.Bounds{Room: o})
		w.build()
		if _, state := w.scopes.Get(0, x.name); state != 1 {
			t.Errorf("P1901: with room for %d objects, Get of %q tells %d", o, x.name, state)
		}
		w = empty(t, api.Bounds{Room: o + 1})
		w.build()
		if v := w.global(x.name); v != obj(o) {
			t.Errorf("P1901: with room for %d objects, %q is %+v", o+1, x.name, v)
		}
		if props := w.thing(obj(o)).Props; len(props) != 0 {
			t.Errorf("P1901: with room for %d objects, %q has the properties %+v", o+1, x.name, props)
		}
	}
}

// TestOtherBounds do not matter, since Build takes no steps.
func TestOtherBounds(t *testing.T) {
	things, constants := first(len(beginning()))
	for _, fuel := range []int{math.MinInt, -1, 0, 1, 31, 32, 33, math.MaxInt} {
		for _, deep := range []int{math.MinInt, -1, 0, 1, 2, math.MaxInt} {
			for _, room := range []int{32, 33, math.MaxInt} {
				w := empty(t, api.Bounds{Fuel: fuel, Room: room, Deep: deep})
				w.replies("P1901: Build", w.build(), api.Reply{})
				w.has("P1901: Build", things)
				w.hasNames("P1901: Build", constants)
				if left, deepest := w.Left(); left != max(fuel, 0) || deepest != 0 {
					t.Errorf("P1901: of the fuel %d there is %d left, and the depth was %d", fuel, left, deepest)
				}
			}
		}
	}
}

// TestNothingElseIsTaken: neither scopes nor symbols.
func TestNothingElseIsTaken(t *testing.T) {
	w := built(t)
	if n := w.Heap.Symbol(); n != 1 {
		t.Errorf("P1901: the first symbol is %d", n)
	}
	if n := w.scopes.Make(1); n != -1 {
		t.Errorf("P1901: there is a scope 1: %d", n)
	}
	if n := w.scopes.Make(0); n != 1 {
		t.Errorf("P1901: the first scope is %d", n)
	}
	if len(w.n.Out) != 0 {
		t.Errorf("P1901: it prints %q", w.n.Out)
	}
}

// TestNoCaller: Build calls no function.
func TestNoCaller(t *testing.T) {
	w := empty(t, plenty())
	w.Use(callerFunc(func(_ *mop.World, f api.Thing, _ api.Value, _ []api.Value) api.Reply {
		t.Errorf("P1901: Build calls %+v", f)
		return api.Reply{}
	}))
	w.replies("P1901: Build", w.build(), api.Reply{})
	w.Use(nil)
	things, _ := first(len(beginning()))
	w.has("P1901: Build", things)
}

// TestNamesFromWithin: what is declared in scope 0 is seen from all scopes, and
// may be hidden there.
func TestNamesFromWithin(t *testing.T) {
	w := built(t)
	_, constants := first(len(beginning()))
	inner := w.scopes.Make(w.scopes.Make(0))
	for s, want := range constants {
		if v, state := w.scopes.Get(inner, s); v != want || state != 0 {
			t.Errorf("P1901: Get of %q in a scope within = %+v, %d", s, v, state)
		}
		if n := w.scopes.Set(inner, s, yes); n != 3 {
			t.Errorf("P1901: Set of %q in a scope within = %d", s, n)
		}
		if w.scopes.Let(0, s, false) {
			t.Errorf("P1901: %q can be declared again", s)
		}
		if !w.scopes.Let(inner, s, false) || !w.scopes.Begin(inner, s, no) || w.global(s) != want {
			t.Errorf("P1901: %q can't be hidden", s)
		}
	}
}

// TestTwoWorlds: what is done with one changes nothing in another, and Build
// does the same in each.
func TestTwoWorlds(t *testing.T) {
	things, constants := first(len(beginning()))
	one, two := empty(t, plenty()), empty(t, plenty())
	one.build()
	for o := range one.objects() {
		one.Heap.Put(o, name("a"), field("a", yes, "wec").Desc)
		one.Heap.Drop(o, name("call"))
		x := one.thing(obj(o))
		x.Code, x.Proto, x.Extensible = 99, number(7), false
		one.Heap.Set(o, x)
	}
	one.scopes.Let(0, "a", true)
	two.has("P1903: the other world", nil)
	two.hasNames("P1903: the other world", nil)
	two.build()
	two.has("P1903: the other world", things)
	two.hasNames("P1903: the other world", constants)
}

// TestResultsAreCopies: what the world hands out can be changed by anyone.
func TestResultsAreCopies(t *testing.T) {
	things, _ := first(len(beginning()))
	w := built(t)
	for range 2 {
		for o, want := range things {
			x := w.thing(obj(o))
			if show(x) != show(want) {
				t.Fatalf("P1903: the object %d is %+v, want %+v", o, x, want)
			}
			spoil(x.Props, field("spoilt", yes, ""))
			spoil(x.Args, yes)
		}
	}
}

// TestKeys: the keys of the objects are in the order in which the properties
// were created.
func TestKeys(t *testing.T) {
	w := built(t)
	for o, x := range beginning() {
		var want []api.Key
		for _, y := range beginning() {
			if y.holder == o {
				want = append(want, name(y.name))
			}
		}
		r := w.Do(api.MKeys, o, api.Ask{})
		if r.Flow != api.Done || !slices.Equal(r.Keys, want) {
			t.Errorf("P1901: the keys of %q are %+v, want %+v", x.name, r.Keys, want)
		}
	}
}

// TestStrangeWorlds: where there is no world or no heap, there is no room;
// where there are no scopes, nothing is declared.
func TestStrangeWorlds(t *testing.T) {
	noRoom := api.Reply{Flow: api.NoRoom}
	for _, w := range []*mop.World{nil, {}, mop.New(api.Bounds{}), mop.New(api.Bounds{Fuel: 9, Room: -9, Deep: 9})} {
		s := scope.New()
		for _, scopes := range []*scope.Scopes{nil, {}, s} {
			if r := Build(w, scopes); show(r) != show(noRoom) {
				t.Errorf("P1901: Build without room = %+v", r)
			}
		}
		world{mop.New(plenty()), s, nil, t}.hasNames("P1901: Build without room", nil)
	}
	things, _ := first(len(beginning()))
	for _, scopes := range []*scope.Scopes{nil, {}} {
		w := empty(t, plenty())
		w.replies("P1901: Build", Build(w.World, scopes), api.Reply{})
		w.has("P1901: Build", things)
	}
}

// TestWorldsThatAreNotNew: for these nothing is specified, but the call ends.
func TestWorldsThatAreNotNew(t *testing.T) {
	for before := range 5 {
		w := empty(t, api.Bounds{Fuel: 100, Room: 90, Deep: 10})
		for range before {
			w.Heap.Make(api.Thing{Kind: api.Proxy, Proto: obj(99)})
		}
		for i, s := range namesToTry() {
			if i%2 == 0 {
				w.scopes.Let(0, s, false)
			}
		}
		for range 4 {
			w.build()
		}
		if n := w.Heap.Len(); n != 90 {
			t.Errorf("there are %d objects", n)
		}
	}
}
