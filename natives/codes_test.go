package natives

import (
	"math"
	"slices"
	"testing"

	"understudy/api"
	"understudy/reflect"
)

// TestOtherCodes: they throw, whatever they are called with.
func TestOtherCodes(t *testing.T) {
	known := codes()
	others := []int{
		math.MinInt, math.MinInt + api.CReflect + 1, math.MaxInt, 1<<32 + api.CPrint, 1<<32 + api.CReflect + 1,
		-api.CPrint, -api.CKeys, 100, 256 + api.CPrint, 1000, 1 << 16,
	}
	for code := -50; code < 100; code++ {
		if !slices.Contains(known, code) {
			others = append(others, code)
		}
	}
	for _, code := range []int{0, api.CWritten, api.CConst, api.CThrow, api.CArg, api.CThis, api.CReflect, api.CReflect + 14} {
		if !slices.Contains(others, code) {
			t.Fatalf("%d is among the Codes", code)
		}
	}
	w := newWorld(t)
	class, o := w.class(), w.plain(null)
	for _, code := range others {
		w.refuses(code, undefined)
		w.refuses(code, class, o, o, o)
	}
	for _, code := range others {
		f := function(code)
		f.V, f.N = w.proxy(o, o), api.CPrint
		w.fails(describe(code, class, nil), w.n.Call(w.World, f, class, list(class, str("a"))), "TypeError")
	}
	if len(w.n.Out) != 0 || len(w.Log()) != 0 {
		t.Errorf("P1801: other codes print %q and take %d steps", w.n.Out, len(w.Log()))
	}
}

// TestReflectCodes: each does what package reflect does.
func TestReflectCodes(t *testing.T) {
	for m := api.MGetProto; m <= api.MConstruct; m++ {
		done, threw := 0, 0
		rows := len(reflectArguments(newWorld(t)))
		for i := range rows {
			w, twin := newWorld(t), newWorld(t)
			args := reflectArguments(w)[i]
			want := reflect.Call(twin.World, m, reflectArguments(twin)[i])
			what := describe(api.CReflect+m, undefined, args)
			w.replies(what, w.call(api.CReflect+m, twin.class(), args...), want)
			if show(w.Log()) != show(twin.Log()) || show(w.objects()) != show(twin.objects()[:w.Heap.Len()]) {
				t.Errorf("%s: the world is another one than behind package reflect", what)
			}
			if want.Flow == api.Done {
				done++
			} else {
				threw++
			}
		}
		if done < 2 || threw < 2 {
			t.Errorf("of the calls for method %d, %d are done and %d throw", m, done, threw)
		}
	}
}

// reflectArguments are for any method, some right and some wrong.
func reflectArguments(w world) [][]api.Value {
	class := w.function(api.CProxy, 0, undefined, field("a", yes, "wec"), field("b", no, ""))
	o := w.plain(null, field("a", number(1), "wec"), marked(1, yes, "wec"))
	l, d := w.array(o, o), w.plain(null, field("value", yes, ""))
	p := w.proxy(class, w.plain(null))
	return [][]api.Value{
		nil, list(undefined), list(o), list(class), list(p), list(w.revoked()),
		list(o, str("a")), list(o, str("none")), list(class, str("b")), list(o, symbol(1)), list(o, o),
		list(o, str("a"), d), list(class, str("b"), d), list(p, str("b"), d), list(o, str("a"), yes, class),
		list(o, null), list(o, class), list(class, class), list(o, yes),
		list(class, l), list(p, l), list(class, l, p), list(class, l, o), list(w.gives(yes), undefined, l), list(p, null, l),
		list(w.function(api.CPrint, 0, undefined), o, l), list(w.function(api.CThis, 0, undefined), o, l), list(class, undefined),
	}
}

// goodCall is a call that is done.
type goodCall struct {
	f    api.Thing
	this api.Value
	args []api.Value
}

// goodCalls are some calls of a function that are done and take as many steps
// as there can be, by traps that are functions of Reflect.
func (w world) goodCalls(code int) []goodCall {
	f := function(code)
	o := w.honest(w.plain(null, field("a", yes, "wec"), field("b", no, "we"), field("c", no, "w"), marked(1, yes, "e")))
	class := w.honest(w.function(api.CProxy, 0, undefined, field("a", yes, "wec")))
	l, d := w.array(o, class), w.plain(null, field("configurable", yes, ""))
	strict := w.honest(w.add(api.Thing{Proto: null, Props: []api.Entry{field("a", yes, "e"), sides("b", undefined, undefined, "")}}))
	one := func(this api.Value, args ...api.Value) []goodCall { return []goodCall{{f, this, args}} }
	switch code {
	case api.CRevoke:
		f.V = o
		return one(undefined)
	case api.CBind, api.CCall:
		arrays := w.function(api.CIsArray, 0, undefined)
		return append(one(arrays, yes, l, class), append(one(w.honest(arrays)), one(w.honest(arrays), o, l)...)...)
	case api.CProxy, api.CRevocable:
		return append(one(undefined, o, class), one(yes, class, o, l)...)
	case api.CFrozen, api.CSealed:
		return append(one(undefined, strict), append(one(undefined, o), one(undefined)...)...)
	case api.CReflect + api.MSetProto:
		return one(undefined, o, null)
	case api.CReflect + api.MCall:
		return one(undefined, w.honest(w.function(api.CIsArray, 0, undefined)), o, l)
	case api.CReflect + api.MConstruct:
		return append(one(undefined, class, l), one(undefined, class, l, class)...)
	case api.CReflect + api.MDefine:
		return append(one(undefined, o, str("a"), d), one(undefined, class, str("new"), d, yes)...)
	}
	return append(one(undefined, o), append(one(class, o, str("a")), one(l, class, str("a"), l, o)...)...)
}

// honest is a proxy of target whose traps do on it what they are asked.
func (w world) honest(target api.Value) api.Value {
	var l []api.Entry
	for m := api.MGetProto; m <= api.MConstruct; m++ {
		l = append(l, field(reflect.Trap(m), w.function(api.CReflect+m, 0, undefined), "w"))
	}
	return w.proxy(target, w.plain(null, l...))
}

// TestFieldsOfTheFunction: of the function, the Code counts, and V for CRevoke,
// and nothing else.
func TestFieldsOfTheFunction(t *testing.T) {
	for _, code := range codes() {
		for i := range newWorld(t).goodCalls(code) {
			w, twin := newWorld(t), newWorld(t)
			c, d := w.goodCalls(code)[i], twin.goodCalls(code)[i]
			want := twin.n.Call(twin.World, d.f, d.this, d.args)
			if want.Flow != api.Done {
				t.Fatalf("%s: %+v", describe(code, d.this, d.args), want)
			}
			o := obj(0)
			c.f.Kind, c.f.Proto, c.f.Extensible, c.f.N, c.f.Target, c.f.Handler = api.Proxy, o, false, 5, o, o
			c.f.This, c.f.Args, c.f.Calls, c.f.Makes, c.f.Env = o, list(o, yes), true, true, 7
			c.f.Props = []api.Entry{field("a", no, "")}
			if code != api.CRevoke {
				c.f.V = o
			}
			w.sameAs(twin, describe(code, c.this, c.args), w.n.Call(w.World, c.f, c.this, c.args), want)
		}
	}
}

// TestThisAndMore: only CBind and CCall look at what they are called on.
func TestThisAndMore(t *testing.T) {
	for _, code := range codes() {
		if code == api.CBind || code == api.CCall {
			continue
		}
		for i := range newWorld(t).goodCalls(code) {
			for _, this := range append(simple(), obj(0), obj(1), obj(-1), api.Value{Kind: 7}) {
				w, twin := newWorld(t), newWorld(t)
				c, d := w.goodCalls(code)[i], twin.goodCalls(code)[i]
				want := twin.n.Call(twin.World, d.f, d.this, d.args)
				w.sameAs(twin, describe(code, this, c.args), w.n.Call(w.World, c.f, this, c.args), want)
			}
		}
	}
}

// sameAs checks that two worlds and the replies of a call in each are alike.
func (w world) sameAs(twin world, what string, got, want api.Reply) {
	w.t.Helper()
	w.replies(what, got, want)
	fuel, deepest := w.Left()
	otherFuel, otherDeepest := twin.Left()
	if fuel != otherFuel || deepest != otherDeepest || !slices.Equal(w.n.Out, twin.n.Out) {
		w.t.Fatalf("%s: Left and Out are %d, %d, %q, want %d, %d, %q", what, fuel, deepest, w.n.Out, otherFuel, otherDeepest, twin.n.Out)
	}
	if show(w.Log()) != show(twin.Log()) {
		w.t.Fatalf("%s: the log is\n%+v, want\n%+v", what, w.Log(), twin.Log())
	}
	if show(w.objects()) != show(twin.objects()) {
		w.t.Fatalf("%s: the objects are\n%+v, want\n%+v", what, w.objects(), twin.objects())
	}
}
