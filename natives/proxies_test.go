package natives

import (
	"testing"

	"understudy/api"
)

// flags are the Calls and Makes of an object.
type flags struct {
	v            api.Value
	calls, makes bool
}

// targets are objects of all kinds with what they can be used for.
func (w world) targets() []flags {
	class, handler := w.class(), w.plain(null)
	l := []flags{
		{handler, false, false}, {w.array(yes), false, false},
		{w.add(api.Thing{Kind: api.Error, Proto: null, Calls: true, Makes: true}), false, false},
		{w.add(api.Thing{Proto: null, Calls: true, Makes: true}), false, false},
		{class, true, true}, {w.function(api.CProxy, 0, undefined), true, true},
		{w.gives(yes), true, false}, {w.function(api.CPrint, 0, undefined), true, false}, {w.function(77, 0, undefined), true, false},
		{w.revoked(), false, false},
	}
	for i := range 4 {
		calls, makes := i%2 == 1, i/2 == 1
		l = append(l, flags{w.bound(class, calls, makes), calls, makes}, flags{w.flagged(class, handler, calls, makes), calls, makes})
		l = append(l, flags{w.flagged(null, null, calls, makes), calls, makes})
	}
	return l
}

func proxyThing(x flags, handler api.Value) api.Thing {
	return api.Thing{
		Kind: api.Proxy, Proto: null, Extensible: true, Target: x.v, Handler: handler, Calls: x.calls, Makes: x.makes,
	}
}

// TestProxy: any object can be a target and a handler, also a proxy that is
// revoked.
func TestProxy(t *testing.T) {
	w := newWorld(t)
	all := w.targets()
	before := w.objects()
	for _, x := range all {
		for _, handler := range all {
			args := list(x.v, handler.v)
			n := w.Heap.Len()
			w.makes(describe(api.CProxy, undefined, args), n, w.call(api.CProxy, undefined, args...), proxyThing(x, handler.v))
			args = append(args, yes, x.v)
			n = w.Heap.Len()
			w.makes(describe(api.CProxy, x.v, args), n, w.call(api.CProxy, x.v, args...), proxyThing(x, handler.v))
		}
	}
	if show(w.objects()[:len(before)]) != show(before) {
		t.Error("P1801: CProxy changes other objects")
	}
	if fuel, _ := w.Left(); fuel != plenty().Fuel || len(w.Log()) != 0 {
		t.Errorf("P1801: CProxy takes %d steps", plenty().Fuel-fuel)
	}
}

func TestProxyOfNoObject(t *testing.T) {
	for _, code := range []int{api.CProxy, api.CRevocable} {
		w := newWorld(t)
		o := w.plain(null)
		w.refuses(code, undefined)
		w.refuses(code, o, o)
		for _, v := range append(simple(), number(o.Num), api.Value{Kind: 7}, api.Value{Kind: -1}) {
			w.refuses(code, undefined, v)
			w.refuses(code, undefined, v, o)
			w.refuses(code, o, v, o, o)
			w.refuses(code, undefined, o, v)
			w.refuses(code, undefined, o, v, o)
			w.refuses(code, undefined, v, v)
		}
	}
}

// TestConstructedProxy: the function Proxy is a constructor, and no more.
func TestConstructedProxy(t *testing.T) {
	w := newWorld(t)
	f, o, h := w.function(api.CProxy, 0, undefined), w.plain(null, field("a", yes, "wec")), w.plain(null)
	r := w.Do(api.MConstruct, f.Num, api.Ask{Receiver: f, List: list(o, h)})
	w.does("P1801: new Proxy", r, r.Value)
	w.is("P1801: new Proxy", r.Value, proxyThing(flags{v: o}, h))
	w.does("P1801: new Proxy", w.Do(api.MGet, r.Value.Num, api.Ask{Key: name("a"), Receiver: o}), yes)
	w.fails("P1801: Proxy", w.Do(api.MCall, f.Num, api.Ask{List: list(o, h)}), "TypeError")
}

func TestRevocable(t *testing.T) {
	w := newWorld(t)
	all := w.targets()
	before := w.objects()
	for _, x := range all {
		for _, handler := range all {
			for _, args := range [][]api.Value{list(x.v, handler.v), list(x.v, handler.v, x.v)} {
				what := describe(api.CRevocable, undefined, args)
				from := w.Heap.Len()
				r := w.call(api.CRevocable, undefined, args...)
				w.does(what, r, obj(from+2))
				want := []api.Thing{
					proxyThing(x, handler.v),
					{Kind: api.Function, Proto: null, Extensible: true, Code: api.CRevoke, V: obj(from)},
					{Kind: api.Plain, Proto: null, Extensible: true, Props: []api.Entry{
						field("proxy", obj(from), "wec"), field("revoke", obj(from+1), "wec"),
					}},
				}
				if got := w.newFrom(from); show(got) != show(want) {
					t.Fatalf("%s: the new objects are %+v, want %+v", what, got, want)
				}
			}
		}
	}
	if show(w.objects()[:len(before)]) != show(before) {
		t.Error("P1801: CRevocable changes other objects")
	}
	if fuel, _ := w.Left(); fuel != plenty().Fuel || len(w.Log()) != 0 {
		t.Errorf("P1801: CRevocable takes %d steps", plenty().Fuel-fuel)
	}
}

// TestRevocableWithoutRoom: the objects are made one after the other.
func TestRevocableWithoutRoom(t *testing.T) {
	for room := range 4 {
		w := bounded(t, api.Bounds{Room: 1 + room})
		o := w.plain(null)
		r := w.call(api.CRevocable, undefined, o, o)
		if room == 3 {
			w.does("P1801: CRevocable", r, obj(3))
			continue
		}
		w.replies("P1801: CRevocable without room", r, api.Reply{Flow: api.NoRoom})
		if w.Heap.Len() != 1+room {
			t.Errorf("P1801: with room for %d there are %d objects", 1+room, w.Heap.Len())
		}
	}
}

// revoke calls a function that revokes v.
func (w world) revoke(v api.Value, this api.Value, args ...api.Value) api.Reply {
	f := function(api.CRevoke)
	f.V = v
	return w.n.Call(w.World, f, this, args)
}

func TestRevoke(t *testing.T) {
	w := newWorld(t)
	for _, x := range w.targets() {
		handler := w.plain(null)
		others := proxyThing(x, handler)
		others.Proto, others.Extensible, others.V, others.This, others.N, others.Env = x.v, false, yes, no, 3, 4
		others.Code, others.Args, others.Props = 5, list(yes, x.v), []api.Entry{field("a", no, "w"), marked(1, yes, "e")}
		for _, thing := range []api.Thing{proxyThing(x, handler), others} {
			p := w.add(thing)
			want := w.objects()
			want[p.Num].Target, want[p.Num].Handler = null, null
			for range 2 { // the second time, nothing is left to do
				w.does("P1801: CRevoke", w.revoke(p, x.v, x.v, handler), undefined)
				if got := w.objects(); show(got) != show(want) {
					t.Fatalf("P1801: CRevoke leaves %+v, want %+v", got[p.Num], want[p.Num])
				}
			}
		}
	}
	if fuel, _ := w.Left(); fuel != plenty().Fuel || len(w.Log()) != 0 {
		t.Errorf("P1801: CRevoke takes %d steps", plenty().Fuel-fuel)
	}
}

// TestRevokeOfNoProxy: what is no proxy stays as it is.
func TestRevokeOfNoProxy(t *testing.T) {
	w := newWorld(t)
	o := w.plain(null)
	p := w.proxy(o, o)
	class := w.class()
	l := append(simple(), number(p.Num), symbol(p.Num), api.Value{Kind: 7, Num: p.Num}, obj(-1), obj(999))
	for kind := api.Plain; kind <= api.Error; kind++ {
		if kind != api.Proxy {
			l = append(l, w.add(api.Thing{Kind: kind, Proto: o, Target: class, Handler: o, Calls: true, Makes: true}))
		}
	}
	for _, v := range l {
		before := show(w.objects())
		w.does("P1801: CRevoke", w.revoke(v, p, p), undefined)
		if got := show(w.objects()); got != before {
			t.Fatalf("P1801: CRevoke of %+v leaves %s, want %s", v, got, before)
		}
	}
}

// TestRevokedProxy: a proxy that was made by CRevocable is of no use any more
// behind its revoke, and what it was for stays.
func TestRevokedProxy(t *testing.T) {
	w := newWorld(t)
	target, handler := w.class(), w.plain(null)
	both := w.call(api.CRevocable, undefined, target, handler).Value
	p, _ := w.Heap.Own(both.Num, name("proxy"))
	f, _ := w.Heap.Own(both.Num, name("revoke"))
	w.replies("P1801: before", w.Do(api.MIsExt, p.Value.Num, api.Ask{}), api.Reply{OK: true})
	before := show([]api.Thing{w.thing(target), w.thing(handler)})
	for range 2 {
		w.does("P1801: revoke", w.Do(api.MCall, f.Value.Num, api.Ask{Receiver: both, List: list(yes)}), undefined)
		for m := api.MGetProto; m <= api.MConstruct; m++ {
			w.fails("P1801: revoked", w.Do(m, p.Value.Num, api.Ask{Receiver: target, Value: null}), "TypeError")
		}
		if !w.Calls(p.Value) || !w.Makes(p.Value) {
			t.Error("P1801: revoked, it is Calls or Makes no more")
		}
	}
	if after := show([]api.Thing{w.thing(target), w.thing(handler)}); after != before {
		t.Errorf("P1801: revoke changes %s to %s", before, after)
	}
}

func TestIsArray(t *testing.T) {
	w := newWorld(t)
	w.quiet(no, api.CIsArray, undefined)
	for _, v := range append(simple(), api.Value{Kind: 7}, api.Value{Kind: -1}) {
		w.quiet(no, api.CIsArray, undefined, v)
		w.quiet(no, api.CIsArray, w.array(), v, w.array())
	}
	handler := w.plain(null, field("get", w.throws(yes), ""))
	for kind := api.Plain; kind <= api.Error; kind++ {
		if kind == api.Proxy {
			continue
		}
		v := w.add(api.Thing{Kind: kind, Proto: w.array(), Target: w.array(), Handler: handler, Props: elements(yes)})
		want := no
		if kind == api.Array {
			want = yes
		}
		w.quiet(want, api.CIsArray, undefined, v)
		for range 5 {
			v = w.flagged(v, handler, false, false)
			w.quiet(want, api.CIsArray, undefined, v)
			w.quiet(want, api.CIsArray, null, v, null, handler)
		}
	}
}

// TestIsArrayOfRevoked: behind a proxy that is revoked there is nothing to be
// asked.
func TestIsArrayOfRevoked(t *testing.T) {
	w := newWorld(t)
	handler := w.plain(null)
	for _, h := range append(simple(), api.Value{Kind: 7}) {
		for _, target := range list(null, w.array(), handler) {
			p := w.flagged(target, h, true, true)
			w.refuses(api.CIsArray, undefined, p)
			for range 3 {
				p = w.proxy(p, handler)
				w.refuses(api.CIsArray, undefined, p, handler)
			}
		}
	}
	// The handler is not asked anything, so it may be revoked.
	w.quiet(yes, api.CIsArray, undefined, w.proxy(w.array(), w.revoked()))
	w.quiet(no, api.CIsArray, undefined, w.flagged(null, handler, false, false))
}

// TestIsArrayOfManyProxies: a row of proxies may consist of all objects, and a
// ring ends.
func TestIsArrayOfManyProxies(t *testing.T) {
	for _, n := range []int{1, 2, 3, 4, 10, 300} {
		for _, what := range []string{"array", "ring", "revoked", "plain", "inner ring"} {
			w := bounded(t, api.Bounds{Room: n + 1})
			for i := range n - 1 {
				w.add(api.Thing{Kind: api.Proxy, Proto: null, Target: obj(i + 1), Handler: obj(0)})
			}
			last := api.Thing{Kind: api.Proxy, Proto: null, Target: obj(0), Handler: obj(0)}
			switch what {
			case "array":
				last = api.Thing{Kind: api.Array, Proto: null, Props: elements()}
			case "plain":
				last = api.Thing{Proto: null}
			case "revoked":
				last.Target, last.Handler = null, null
			case "inner ring":
				last.Target = obj(n / 2)
			}
			w.add(last)
			switch what {
			case "array":
				w.quiet(yes, api.CIsArray, undefined, obj(0))
			case "revoked":
				w.refuses(api.CIsArray, undefined, obj(0))
			default:
				w.quiet(no, api.CIsArray, undefined, obj(0))
			}
		}
	}
}
