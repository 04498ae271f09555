package natives

import (
	"testing"

	"understudy/api"
	"understudy/mop"
)

// callable are the targets that can be called, and the others.
func (w world) callable() (l, others []flags) {
	for _, x := range w.targets() {
		if x.calls {
			l = append(l, x)
		} else {
			others = append(others, x)
		}
	}
	return l, others
}

// binds checks a call of CBind on a function with the prototype proto.
func (w world) binds(x flags, proto api.Value, args ...api.Value) {
	w.t.Helper()
	what := describe(api.CBind, x.v, args)
	want := api.Thing{Kind: api.Bound, Proto: proto, Extensible: true, Target: x.v, Calls: true, Makes: x.makes}
	if len(args) > 0 {
		want.This, want.Args = args[0], args[1:]
	}
	from, before := len(w.Log()), w.Heap.Len()
	w.makes(what, before, w.call(api.CBind, x.v, args...), want)
	w.steps(what, from, do(api.MGetProto, x.v))
}

func TestBind(t *testing.T) {
	w := newWorld(t)
	good, _ := w.callable()
	for _, x := range good {
		thing := w.thing(x.v)
		if thing.Handler == null {
			continue // revoked: see below
		}
		for _, proto := range list(null, w.plain(null), w.array()) {
			thing.Proto = proto
			w.Heap.Set(x.v.Num, thing)
			if thing.Kind == api.Proxy { // the prototype is that of the target
				proto = w.thing(thing.Target).Proto
			}
			before := show(w.thing(x.v))
			w.binds(x, proto)
			for _, v := range append(simple(), x.v, proto) {
				w.binds(x, proto, v)
				w.binds(x, proto, v, undefined)
				w.binds(x, proto, undefined, v, yes, x.v)
			}
			if after := show(w.thing(x.v)); after != before {
				t.Errorf("P1801: CBind changes %s to %s", before, after)
			}
		}
	}
}

// TestBindThrough: what is bound is bound in a proxy's own way, and the bound
// function can be called and constructed.
func TestBindThrough(t *testing.T) {
	w := newWorld(t)
	proto := w.plain(null)
	p := w.behind(w.class(), "getPrototypeOf", w.gives(proto))
	w.binds(flags{p, true, true}, proto, yes, no)
	b := obj(w.Heap.Len() - 1)
	w.binds(flags{b, true, true}, proto, no, yes)
	twice := obj(w.Heap.Len() - 1)
	var calls []string
	w.Use(callerFunc(func(_ *mop.World, f api.Thing, this api.Value, args []api.Value) api.Reply {
		calls = append(calls, show(list(append(list(this), args...)...)))
		return api.Reply{}
	}))
	w.does("P1801: a bound function", w.Do(api.MCall, twice.Num, api.Ask{Receiver: str("r"), List: list(number(1))}), undefined)
	if want := show(list(yes, no, yes, number(1))); len(calls) != 1 || calls[0] != want {
		t.Errorf("P1801: the bound function gets %v, want %s", calls, want)
	}
	r := w.Do(api.MConstruct, twice.Num, api.Ask{Receiver: twice, List: list(number(1))})
	w.does("P1801: a bound function", r, obj(w.Heap.Len()-1))
	if want := show(list(r.Value, no, yes, number(1))); len(calls) != 2 || calls[1] != want {
		t.Errorf("P1801: the bound function gets %v, want %s", calls, want)
	}
}

// TestNoFunctions: what is not Calls can be neither bound nor called, whatever
// else it is.
func TestNoFunctions(t *testing.T) {
	w := newWorld(t)
	_, bad := w.callable()
	l := append(simple(), api.Value{Kind: 7}, api.Value{Kind: -1}, obj(-1), obj(999))
	for _, x := range bad {
		l = append(l, x.v)
	}
	class := w.class()
	for _, code := range []int{api.CBind, api.CCall} {
		for _, v := range l {
			w.refuses(code, v)
			w.refuses(code, v, class)
			w.refuses(code, v, undefined, class, class)
		}
	}
}

// TestRevokedFunctions: they are Calls, and throw when they are asked.
func TestRevokedFunctions(t *testing.T) {
	w := newWorld(t)
	for _, makes := range []bool{true, false} {
		p := w.flagged(null, null, true, makes)
		before := w.Heap.Len()
		for i, code := range []int{api.CBind, api.CCall} {
			fuel, _ := w.Left()
			w.fails(describe(code, p, nil), w.call(code, p), "TypeError")
			if left, _ := w.Left(); left != fuel-1 || w.Heap.Len() != before+i+1 {
				t.Errorf("P1801: Code %d of a revoked proxy takes %d steps and makes %d objects", code, fuel-left, w.Heap.Len()-before)
			}
		}
	}
}

// TestBindRevokedOnTheWay: the prototype was told before the proxy was revoked,
// so there is a bound function; it is a constructor, since a revoked proxy
// remains one.
func TestBindRevokedOnTheWay(t *testing.T) {
	w := newWorld(t)
	proto := w.plain(null)
	trap := w.function(88, 0, undefined)
	p := w.behind(w.class(), "getPrototypeOf", trap)
	w.Use(callerFunc(func(*mop.World, api.Thing, api.Value, []api.Value) api.Reply {
		w.revoke(p, undefined)
		return api.Reply{Value: proto}
	}))
	w.binds(flags{p, true, true}, proto, yes)
	w.fails("P1801: bound to a revoked proxy", w.Do(api.MCall, w.Heap.Len()-1, api.Ask{}), "TypeError")
}

func TestCall(t *testing.T) {
	w := newWorld(t)
	this := w.function(api.CThis, 0, undefined)
	calls := func(f, want api.Value, args ...api.Value) {
		t.Helper()
		what, from, before := describe(api.CCall, f, args), len(w.Log()), w.Heap.Len()
		w.does(what, w.call(api.CCall, f, args...), want)
		a := api.Ask{}
		if len(args) > 0 {
			a.Receiver, a.List = args[0], args[1:]
		}
		w.steps(what, from, step{api.MCall, f.Num, a})
		if w.Heap.Len() != before {
			t.Errorf("%s: it makes objects", what)
		}
	}
	calls(this, undefined)
	calls(w.gives(yes), yes)
	for _, v := range append(simple(), this) {
		calls(this, v, v)
		calls(this, v, v, yes, no)
		calls(w.function(api.CArg, 0, undefined), v, yes, v, no)
		calls(w.function(api.CArg, 1, undefined), v, v, yes, v)
		calls(w.function(api.CArg, 2, undefined), undefined, v, v, v)
		calls(w.bound(this, true, false), str("this"), v, yes)
		calls(w.proxy(this, w.plain(null)), v, v, yes)
	}
	// A function that is performed here, and CCall itself.
	o := w.plain(null, field("a", yes, "wec"))
	calls(w.function(api.CReflect+api.MGet, 0, undefined), yes, undefined, o, str("a"))
	calls(w.function(api.CCall, 0, undefined), o, this, o)
	w.does("P1801: the trap", w.call(api.CCall, w.behind(this, "apply", w.function(api.CArg, 1, undefined)), number(5)), number(5))
}

// TestCallOfNatives: CCall and CBind work as functions of the world.
func TestCallOfNatives(t *testing.T) {
	w := newWorld(t)
	this := w.function(api.CThis, 0, undefined)
	call, bind := w.function(api.CCall, 0, undefined), w.function(api.CBind, 0, undefined)
	w.does("P1801: call", w.Do(api.MCall, call.Num, api.Ask{Receiver: this, List: list(number(4), yes)}), number(4))
	w.fails("P1801: call", w.Do(api.MCall, call.Num, api.Ask{List: list(number(4), yes)}), "TypeError")
	r := w.Do(api.MCall, bind.Num, api.Ask{Receiver: this, List: list(number(4), yes)})
	w.does("P1801: bind", r, obj(w.Heap.Len()-1))
	w.does("P1801: bound", w.Do(api.MCall, r.Value.Num, api.Ask{Receiver: number(5)}), number(4))
	w.fails("P1801: bind is no constructor", w.Do(api.MConstruct, bind.Num, api.Ask{Receiver: bind}), "TypeError")
}
