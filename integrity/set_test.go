package integrity

import (
	"slices"
	"testing"

	"understudy/api"
	"understudy/mop"
	"understudy/reflect"
)

// mark is a data property whose key is a symbol.
func mark(v api.Value, signs string) api.Entry {
	e := field("", v, signs)
	e.Key = api.Key{Sym: 2}
	return e
}

// kinds are objects of all kinds with these properties; an array has length in
// front of them. The proxies have empty handlers.
func (w world) kinds(props ...api.Entry) []api.Value {
	f := w.function(api.CWritten, 0, undefined)
	var l []api.Value
	for _, x := range []api.Thing{
		{Kind: api.Plain, V: str("v")},
		{Kind: api.Array},
		{Kind: api.Function, Code: api.CWritten, N: 7, Env: 3},
		{Kind: api.Function, Code: api.CThrow, V: str("thrown")},
		{Kind: api.Bound, Target: f, This: f, Args: []api.Value{yes, no}, Calls: true},
		{Kind: api.Error},
	} {
		x.Proto, x.Extensible, x.Props = f, true, props
		if x.Kind == api.Array {
			x.Props = append([]api.Entry{field("length", number(2), "w")}, props...)
		}
		l = append(l, w.add(x))
	}
	empty := w.plain(null)
	inner := w.proxy(w.plain(f, props...), empty)
	return append(l, w.proxy(w.plain(f, props...), empty), w.proxy(inner, empty))
}

// behind is the object that v stands for.
func (w world) behind(v api.Value) api.Value {
	for w.thing(v).Kind == api.Proxy {
		v = w.thing(v).Target
	}
	return v
}

// strict returns x as it is when it is sealed or frozen.
func strict(x api.Thing, frozen bool) api.Thing {
	x.Extensible, x.Props = false, slices.Clone(x.Props)
	for i := range x.Props {
		d := &x.Props[i].Desc
		d.Configurable = false
		if frozen {
			d.Writable = false
		}
	}
	return x
}

// TestSteps: the steps go through the keys in order, whatever the object is,
// and what they leave differs in nothing else.
func TestSteps(t *testing.T) {
	w := newWorld(t)
	f := w.function(api.CThis, 0, undefined)
	props := []api.Entry{
		mark(number(1), "wec"), field("b", yes, "wec"), sides("a", f, undefined, "ec"), field("1", undefined, "c"),
		field("hard", number(1), "w"), field("0", f, ""), sides("deaf", undefined, undefined, ""),
	}
	for i, v := range w.kinds(props...) {
		o := w.behind(v)
		first, before := []step{prevent(v), keysOf(v)}, w.thing(o)
		sealing, freezing := slices.Clone(first), slices.Clone(first)
		order := []api.Key{name("0"), name("1"), name("b"), name("a"), name("hard"), name("deaf"), {Sym: 2}}
		if before.Kind == api.Array {
			order = slices.Insert(order, 2, name("length"))
		}
		for _, k := range order {
			sealing = append(sealing, fix(v, k))
			freezing = append(freezing, own(v, k))
			if k == name("a") || k == name("deaf") {
				freezing = append(freezing, fix(v, k))
			} else {
				freezing = append(freezing, stop(v, k))
			}
		}
		for _, x := range []struct {
			what  string
			steps []step
			then  api.Thing
		}{
			{"seal", sealing, strict(before, false)}, {"seal", sealing, strict(before, false)},
			{"freeze", freezing, strict(before, true)}, {"freeze", freezing, strict(before, true)},
			{"seal", sealing, strict(before, true)},
		} {
			w.only(x.what, v, ok, x.steps...)
			if got := w.thing(o); show(got) != show(x.then) {
				t.Errorf("P1101: %s of kind %d leaves\n%+v, want\n%+v", x.what, i, got, x.then)
			}
		}
	}
}

// everyDesc are properties with each combination of flags.
func (w world) everyDesc() []api.Entry {
	f := w.function(api.CThis, 0, undefined)
	var l []api.Entry
	for _, signs := range []string{"", "w", "e", "c", "we", "wc", "ec", "wec"} {
		l = append(l, field("a", number(1), signs), field("a", undefined, signs))
	}
	for _, signs := range []string{"", "e", "c", "ec"} {
		l = append(l, sides("a", f, f, signs), sides("a", undefined, f, signs), sides("a", undefined, undefined, signs))
	}
	return l
}

// TestEveryProperty: by itself, in an object that is extensible or not.
func TestEveryProperty(t *testing.T) {
	w := newWorld(t)
	for _, e := range w.everyDesc() {
		for _, ext := range []bool{true, false} {
			for _, frozen := range []bool{false, true} {
				v := w.add(api.Thing{Proto: null, Extensible: ext, Props: []api.Entry{e}})
				before := w.thing(v)
				w.replies("P1101", Set(w.World, v.Num, frozen), ok)
				if got, want := w.thing(v), strict(before, frozen); show(got) != show(want) {
					t.Errorf("P1101: Set with %v of %+v leaves\n%+v, want\n%+v", frozen, e, got, want)
				}
				w.replies("P1102", Test(w.World, v.Num, frozen), ok)
			}
		}
	}
}

func TestSetWithoutProperties(t *testing.T) {
	for _, what := range []string{"seal", "freeze"} {
		w := newWorld(t)
		for _, v := range w.kinds() {
			if o := w.behind(v); w.thing(o).Kind != api.Array {
				w.only(what, v, ok, prevent(v), keysOf(v))
				if w.thing(o).Extensible {
					t.Errorf("P1101: %s leaves %+v", what, w.thing(o))
				}
			}
		}
	}
}

// TestInherited: the prototype is left alone.
func TestInherited(t *testing.T) {
	for _, what := range calls() {
		w := newWorld(t)
		proto := w.plain(null, field("far", yes, "wec"))
		v := w.plain(proto, field("near", yes, "wec"))
		before := show(w.thing(proto))
		w.replies(what, w.call(what, v), api.Reply{OK: what == "seal" || what == "freeze"})
		if got := show(w.thing(proto)); got != before {
			t.Errorf("P1101: %s changes the prototype to %s", what, got)
		}
	}
}

// TestPreventRefused: what refuses to be made not extensible is neither sealed
// nor frozen, and that is no error.
func TestPreventRefused(t *testing.T) {
	for _, what := range []string{"seal", "freeze"} {
		for _, v := range []api.Value{no, undefined, null, number(0), str("")} {
			w := newWorld(t)
			target := w.plain(null, field("a", yes, "wec"))
			before := show(w.thing(target))
			p := w.proxy(target, w.plain(null, field("preventExtensions", w.gives(v), "")))
			w.only(what, p, not, prevent(p))
			outer := w.proxy(p, w.plain(null))
			w.only(what, outer, not, prevent(outer))
			if got := show(w.thing(target)); got != before {
				t.Errorf("P1101: %s leaves %s", what, got)
			}
		}
		w := newWorld(t)
		p := w.proxy(w.plain(null), w.plain(null, field("preventExtensions", w.gives(yes), "")))
		w.fails(what, w.call(what, p), "TypeError") // the target is still extensible
	}
}

// trap returns what a trap that is asked for the key k returns, or false if it
// does on the target what it is asked.
type trap = func(k api.Value) (api.Value, bool)

// trapped is a proxy with these traps, which the Caller of the world performs
// from now on.
func (w world) trapped(target api.Value, traps map[int]trap) api.Value {
	var l []api.Entry
	for m := api.MGetProto; m <= api.MConstruct; m++ {
		if traps[m] != nil {
			l = append(l, field(reflect.Trap(m), w.function(api.CReflect+m, 0, undefined), ""))
		}
	}
	w.Use(callerFunc(func(in *mop.World, f api.Thing, _ api.Value, args []api.Value) api.Reply {
		m := f.Code - api.CReflect
		if v, ok := traps[m](append(args, undefined)[1]); ok {
			return api.Reply{Value: v}
		}
		return reflect.Call(in, m, args)
	}))
	return w.proxy(target, w.plain(null, l...))
}

// TestDefineRefused: the first property that can't be sealed or frozen throws,
// and the ones behind it are left as they are.
func TestDefineRefused(t *testing.T) {
	for _, told := range []api.Value{no, undefined, null, number(0), str("")} {
		w := newWorld(t)
		f := w.function(api.CThis, 0, undefined)
		target := func() api.Value {
			return w.plain(null, field("a", yes, "wec"), sides("b", f, f, "ec"), field("c", no, "wec"))
		}
		refuse := map[int]trap{api.MDefine: func(k api.Value) (api.Value, bool) { return told, k == str("b") }}
		for _, what := range []string{"seal", "freeze"} {
			o := target()
			p := w.trapped(o, refuse)
			steps := []step{prevent(p), keysOf(p), fix(p, name("a")), fix(p, name("b"))}
			done := field("a", yes, "we")
			if what == "freeze" {
				steps = []step{prevent(p), keysOf(p), own(p, name("a")), stop(p, name("a")), own(p, name("b")), fix(p, name("b"))}
				done = field("a", yes, "e")
			}
			from := len(w.Log())
			w.fails(what, w.call(what, p), "TypeError")
			w.steps(what, from, steps...)
			want := api.Thing{Proto: null, Props: []api.Entry{done, sides("b", f, f, "ec"), field("c", no, "wec")}}
			if got := w.thing(o); show(got) != show(want) {
				t.Errorf("P1101: %s leaves\n%+v, want\n%+v", what, got, want)
			}
		}
	}
}

// TestOrderAsTold: the keys are visited in the order in which a handler tells
// them.
func TestOrderAsTold(t *testing.T) {
	for _, what := range calls() {
		w := newWorld(t)
		f := w.function(api.CThis, 0, undefined)
		target := w.plain(null, field("1", yes, ""), field("a", yes, ""), sides("b", f, f, ""), mark(yes, ""))
		Set(w.World, target.Num, false)
		l := w.array(symbol(2), str("b"), str("1"), str("a"))
		p := w.proxy(target, w.plain(null, field("ownKeys", w.gives(l), "")))
		m := api.Key{Sym: 2}
		w.only(what, p, ok, map[string][]step{
			"seal": {prevent(p), keysOf(p), fix(p, m), fix(p, name("b")), fix(p, name("1")), fix(p, name("a"))},
			"freeze": {prevent(p), keysOf(p), own(p, m), stop(p, m), own(p, name("b")), fix(p, name("b")),
				own(p, name("1")), stop(p, name("1")), own(p, name("a")), stop(p, name("a"))},
			"sealed": {isExt(p), keysOf(p), own(p, m), own(p, name("b")), own(p, name("1")), own(p, name("a"))},
			"frozen": {isExt(p), keysOf(p), own(p, m), own(p, name("b")), own(p, name("1")), own(p, name("a"))},
		}[what]...)
	}
}

// TestLostProperties: a property can be gone when its turn comes. It is not
// frozen, but sealing goes on without looking, and fails.
func TestLostProperties(t *testing.T) {
	w := newWorld(t)
	lose := func(o api.Value, ask int) api.Value {
		return w.trapped(o, map[int]trap{ask: func(k api.Value) (api.Value, bool) {
			w.Do(api.MDelete, o.Num, api.Ask{Key: name("b")})
			return undefined, false
		}})
	}
	target := func() api.Value {
		return w.plain(null, field("a", yes, "wec"), field("b", yes, "wec"), field("c", yes, "wec"))
	}

	p := lose(target(), api.MGetOwn)
	w.does("freeze", p, ok, prevent(p), keysOf(p), own(p, name("a")), stop(p, name("a")), own(p, name("b")), own(p, name("c")), stop(p, name("c")))
	o := w.behind(p)
	if got, want := w.thing(o), strict(api.Thing{Proto: null, Props: []api.Entry{field("a", yes, "e"), field("c", yes, "e")}}, true); show(got) != show(want) {
		t.Errorf("P1101: freeze leaves\n%+v, want\n%+v", got, want)
	}

	p = lose(target(), api.MDefine)
	from := len(w.Log())
	w.fails("seal", Set(w.World, p.Num, false), "TypeError")
	w.steps("seal", from, prevent(p), keysOf(p), fix(p, name("a")), fix(p, name("b")))

	for _, what := range []string{"sealed", "frozen"} {
		o := w.add(api.Thing{Proto: null, Props: []api.Entry{field("a", yes, ""), field("b", yes, "wec"), field("c", yes, "")}})
		p := lose(o, api.MGetOwn)
		w.does(what, p, ok, isExt(p), keysOf(p), own(p, name("a")), own(p, name("b")), own(p, name("c")))
	}
}

// TestKindsAsTold: what sort a property is of is what MGetOwn says.
func TestKindsAsTold(t *testing.T) {
	w := newWorld(t)
	f := w.function(api.CThis, 0, undefined)
	target := w.plain(null, field("a", yes, "wec"), sides("b", f, f, "ec"))
	get := w.plain(null, field("get", f, ""), field("configurable", yes, ""))
	value := w.plain(null, field("writable", yes, ""), field("configurable", yes, ""))
	p := w.trapped(target, map[int]trap{
		api.MGetOwn: func(k api.Value) (api.Value, bool) {
			return map[api.Value]api.Value{str("a"): get, str("b"): value}[k], true
		},
	})
	w.only("freeze", p, ok, prevent(p), keysOf(p), own(p, name("a")), fix(p, name("a")), own(p, name("b")), stop(p, name("b")))
	want := []api.Entry{field("a", yes, "we"), field("b", undefined, "e")}
	if got := w.thing(target); show(got.Props) != show(want) {
		t.Errorf("P1101: freeze leaves\n%+v, want\n%+v", got.Props, want)
	}
}
