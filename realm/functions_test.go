package realm

import (
	"testing"

	"understudy/api"
	"understudy/mop"
)

// holderOf returns where a program finds the row o: in a constant or in a
// property of one. What object 1 has, each function has.
func (w world) holderOf(o int) (api.Value, bool) {
	x := beginning()[o]
	switch x.holder {
	case noHolder:
		return undefined, false
	case 1:
		return w.global("print"), true
	}
	return w.global(beginning()[x.holder].name), true
}

// TestFunctionsByTheirNames: a program that calls a function by its name calls
// the one with the Code that belongs to the name.
func TestFunctionsByTheirNames(t *testing.T) {
	for _, o := range functionsOf(beginning()) {
		w := built(t)
		x := beginning()[o]
		var seen []int
		w.Use(callerFunc(func(_ *mop.World, f api.Thing, this api.Value, args []api.Value) api.Reply {
			seen = append(seen, f.Code)
			if this != number(1) || len(args) != 1 || args[0] != yes {
				t.Errorf("P1901: %q is called on %+v with %+v", x.name, this, args)
			}
			return api.Reply{Value: str("done")}
		}))
		f := obj(o)
		if holder, ok := w.holderOf(o); ok {
			f = w.get(holder, x.name)
		} else {
			f = w.global(x.name)
		}
		if f != obj(o) || !w.Calls(f) || w.Makes(f) != (x.code == api.CProxy) {
			t.Errorf("P1901: %q is %+v; Calls %v, Makes %v", x.name, f, w.Calls(f), w.Makes(f))
		}
		m := api.MCall
		if x.code == api.CProxy {
			m = api.MConstruct
		}
		r := w.Do(m, f.Num, api.Ask{Receiver: number(1), List: list(yes)})
		if r.Flow != api.Done || r.Value != str("done") || len(seen) != 1 || seen[0] != x.code {
			t.Errorf("P1901: a call of %q = %+v, and reaches the Codes %v, want %d", x.name, r, seen, x.code)
		}
	}
}

// TestObjectsThatAreNoFunctions can't be called.
func TestObjectsThatAreNoFunctions(t *testing.T) {
	w := built(t)
	for o, x := range beginning() {
		if x.code == 0 && (w.Calls(obj(o)) || w.Makes(obj(o))) {
			t.Errorf("P1901: the object %d can be called", o)
		}
	}
}

// TestWhatPrototypesHand: functions inherit from object 1, and all objects from
// object 0.
func TestWhatPrototypesHand(t *testing.T) {
	w := built(t)
	w.Heap.Put(0, name("zero"), field("zero", str("0"), "wec").Desc)
	w.Heap.Put(1, name("one"), field("one", str("1"), "wec").Desc)
	w.Heap.Put(2, name("two"), field("two", str("2"), "wec").Desc)
	for o, x := range beginning() {
		one, call := undefined, undefined
		if x.code != 0 || o == 1 {
			one, call = str("1"), obj(3)
		}
		if v := w.get(obj(o), "zero"); v != str("0") {
			t.Errorf("P1901: the object %d does not inherit from object 0: %+v", o, v)
		}
		if v := w.get(obj(o), "one"); v != one {
			t.Errorf("P1901: the object %d has %+v of object 1", o, v)
		}
		if v := w.get(obj(o), "call"); v != call {
			t.Errorf("P1901: the object %d has %+v as call", o, v)
		}
		if v := w.get(obj(o), "two"); (v == str("2")) != (o == 2) {
			t.Errorf("P1901: the object %d has %+v of object 2", o, v)
		}
	}
}

// TestPropertiesCanBeReplacedAndDeleted, and are not among those that are
// shown.
func TestPropertiesCanBeReplacedAndDeleted(t *testing.T) {
	for o, x := range beginning() {
		if x.holder == noHolder {
			continue
		}
		w := built(t)
		holder, k := obj(x.holder), name(x.name)
		keys := w.call(obj(27), undefined, holder)
		if l, r := w.List(keys); r.Flow != api.Done || len(l) != 0 {
			t.Errorf("P1901: the object %d shows %+v", x.holder, l)
		}
		r := w.Do(api.MSet, x.holder, api.Ask{Key: k, Value: str("new"), Receiver: holder})
		if r.Flow != api.Done || !r.OK || w.get(holder, x.name) != str("new") {
			t.Errorf("P1901: %q can't be replaced: %+v", x.name, r)
		}
		r = w.Do(api.MDelete, x.holder, api.Ask{Key: k})
		if r.Flow != api.Done || !r.OK || w.get(holder, x.name) != undefined {
			t.Errorf("P1901: %q can't be deleted: %+v", x.name, r)
		}
		if w.thing(obj(o)).Code != x.code {
			t.Errorf("P1901: the object %d is another one", o)
		}
	}
}

// TestAProgram does with natives what a program would do.
func TestAProgram(t *testing.T) {
	w := built(t)
	reflects, objects := w.global("Reflect"), w.global("Object")
	o := w.call(w.get(objects, "create"), objects, null)
	made := w.call(w.get(reflects, "set"), reflects, o, str("a"), number(7))
	proxy := w.done(w.Do(api.MConstruct, w.global("Proxy").Num, api.Ask{List: list(o, o), Receiver: w.global("Proxy")})).Value
	both := w.call(w.get(w.global("Proxy"), "revocable"), undefined, o, o)
	if made != yes || w.get(proxy, "a") != number(7) || w.get(w.get(both, "proxy"), "a") != number(7) {
		t.Errorf("P1901: set = %+v, the proxies are %+v and %+v", made, w.thing(proxy), w.thing(both))
	}
	print := w.global("print")
	bound := w.call(w.get(print, "bind"), print, undefined, number(1))
	w.call(w.get(bound, "call"), bound, undefined, w.call(w.global("Symbol"), undefined))
	w.call(print, undefined, w.call(w.get(objects, "isFrozen"), objects, o), w.call(w.get(w.global("Array"), "isArray"), undefined, w.call(w.get(objects, "keys"), objects, o)))
	w.call(w.get(objects, "freeze"), objects, o)
	w.call(print, undefined, w.call(w.get(objects, "isFrozen"), objects, o), w.call(w.get(objects, "isSealed"), objects, proxy))
	if want := []string{"1 symbol", "false true", "true true"}; show(w.n.Out) != show(want) {
		t.Errorf("P1901: the program prints %q, want %q", w.n.Out, want)
	}
	if w.thing(bound).Proto != obj(1) {
		t.Errorf("P1901: the bound function is %+v", w.thing(bound))
	}
}
