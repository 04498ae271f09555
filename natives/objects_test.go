package natives

import (
	"slices"
	"testing"

	"understudy/api"
	"understudy/integrity"
	"understudy/mop"
)

func TestCreate(t *testing.T) {
	w := newWorld(t)
	protos := list(null)
	for _, x := range w.targets() {
		protos = append(protos, x.v)
	}
	for _, v := range protos {
		for _, args := range [][]api.Value{list(v), list(v, undefined), list(v, v, yes)} {
			before := w.Heap.Len()
			w.makes(describe(api.CCreate, undefined, args), before, w.call(api.CCreate, undefined, args...), api.Thing{Proto: v, Extensible: true})
		}
	}
	if fuel, _ := w.Left(); fuel != plenty().Fuel || len(w.Log()) != 0 {
		t.Errorf("P1801: CCreate takes %d steps", plenty().Fuel-fuel)
	}
	w = newWorld(t)
	w.refuses(api.CCreate, undefined)
	w.refuses(api.CCreate, null)
	for _, v := range append(simple(), api.Value{Kind: 7}, api.Value{Kind: -1}) {
		if v != null {
			w.refuses(api.CCreate, null, v)
			w.refuses(api.CCreate, null, v, null)
		}
	}
}

// level is a function of an integrity level.
type level struct {
	code        int
	set, frozen bool
}

func levels() []level {
	return []level{{api.CFreeze, true, true}, {api.CSeal, true, false}, {api.CFrozen, false, true}, {api.CSealed, false, false}}
}

// do performs what the function is for.
func (l level) do(w *mop.World, o int) api.Reply {
	if l.set {
		return integrity.Set(w, o, l.frozen)
	}
	return integrity.Test(w, o, l.frozen)
}

func TestLevelsOfNoObject(t *testing.T) {
	for _, l := range levels() {
		w := newWorld(t)
		o := w.plain(null, field("a", yes, "wec"))
		none := yes
		if l.set {
			none = undefined
		}
		w.quiet(none, l.code, undefined)
		w.quiet(none, l.code, o)
		for _, v := range append(simple(), number(o.Num), api.Value{Kind: 7}, api.Value{Kind: -1, Num: 3, Str: "x"}) {
			want := yes
			if l.set {
				want = v
			}
			w.quiet(want, l.code, undefined, v)
			w.quiet(want, l.code, o, v, o)
		}
	}
}

// graded are objects of all levels, and proxies of them.
func (w world) graded() []api.Value {
	f, handler := w.function(api.CThis, 0, undefined), w.plain(null)
	rows := [][]api.Entry{
		nil,
		{field("a", yes, "wec"), marked(1, no, "w"), sides("g", f, undefined, "ec")},
		{field("a", yes, "we"), marked(1, no, "w"), sides("g", f, undefined, "e")},
		{field("a", yes, "e"), marked(1, no, ""), sides("g", f, undefined, "e")},
		{field("a", yes, "e"), marked(1, no, ""), sides("g", f, undefined, "c")},
		{field("a", yes, "e"), marked(1, no, "w"), sides("g", f, undefined, "")},
		{field("a", yes, "c")},
	}
	var l []api.Value
	for _, props := range rows {
		for _, extensible := range []bool{true, false} {
			v := w.add(api.Thing{Proto: null, Extensible: extensible, Props: props})
			l = append(l, v, w.proxy(v, handler))
		}
	}
	l = append(l, w.array(), w.array(yes, no), f, handler)
	for _, trap := range []string{"preventExtensions", "defineProperty", "isExtensible"} {
		l = append(l, w.behind(w.plain(null, field("a", yes, "wec")), trap, w.gives(no)))
	}
	l = append(l, w.behind(w.plain(null), "ownKeys", w.throws(str("thrown"))), w.revoked())
	return l
}

// TestLevels: each function does what package integrity does.
func TestLevels(t *testing.T) {
	counts := map[string]int{}
	for _, l := range levels() {
		for i := range newWorld(t).graded() {
			w, twin := newWorld(t), newWorld(t)
			v := w.graded()[i]
			twin.graded()
			want := l.do(twin.World, v.Num)
			what := describe(l.code, undefined, list(v))
			got := w.call(l.code, undefined, v)
			counts[show([]any{l.set, l.frozen, want.Flow, want.OK})]++
			switch {
			case want.Flow != api.Done:
				w.replies(what, got, want)
			case !l.set && want.OK:
				w.does(what, got, yes)
			case !l.set:
				w.does(what, got, no)
			case want.OK:
				w.does(what, got, v)
			default:
				w.fails(what, got, "TypeError")
				twin.Fail("TypeError")
			}
			if show(w.objects()) != show(twin.objects()) || show(w.Log()) != show(twin.Log()) {
				t.Errorf("%s: the world is another one than behind package integrity", what)
			}
		}
	}
	if len(counts) != 12 {
		t.Errorf("not all sorts of replies occur: %v", counts)
	}
}

// TestLevelsOne: the first argument alone counts.
func TestLevelsOne(t *testing.T) {
	w := newWorld(t)
	o, other := w.plain(null, field("a", yes, "wec")), w.plain(null, field("a", yes, "wec"))
	before := show(w.thing(other))
	w.does("P1801", w.call(api.CSealed, other, o, other), no)
	w.does("P1801", w.call(api.CSeal, other, o, other), o)
	w.does("P1801", w.call(api.CSealed, other, o, other), yes)
	w.does("P1801", w.call(api.CFrozen, other, o, other), no)
	w.does("P1801", w.call(api.CFreeze, other, o, other), o)
	w.does("P1801", w.call(api.CFrozen, other, o, other), yes)
	w.does("P1801", w.call(api.CFrozen, o, other, o), no)
	if after := show(w.thing(other)); after != before {
		t.Errorf("P1801: another object is %s, was %s", after, before)
	}
	if got, want := w.thing(o), (api.Thing{Proto: null, Props: []api.Entry{field("a", yes, "e")}}); show(got) != show(want) {
		t.Errorf("P1801: frozen it is %+v, want %+v", got, want)
	}
}

// lists checks that CKeys of v returns an array of these names behind these
// steps.
func (w world) lists(v api.Value, names []api.Value, steps ...step) {
	w.t.Helper()
	for _, args := range [][]api.Value{list(v), list(v, v, yes)} {
		what, from, before := describe(api.CKeys, undefined, args), len(w.Log()), w.Heap.Len()
		want := api.Thing{Kind: api.Array, Proto: null, Extensible: true, Props: elements(names...)}
		w.makes(what, before, w.call(api.CKeys, undefined, args...), want)
		w.steps(what, from, append([]step{do(api.MKeys, v)}, steps...)...)
	}
}

func TestKeys(t *testing.T) {
	w := newWorld(t)
	w.lists(w.plain(null), nil)
	w.lists(w.plain(w.array(yes)), nil)
	f := w.throws(yes)
	v := w.plain(null, marked(2, yes, "wec"), field("b", yes, "wec"), field("10", yes, "e"), sides("get", f, f, "e"),
		field("hidden", yes, "wc"), sides("none", f, undefined, "c"), field("", no, "wec"), field("2", yes, "wec"), field("07", yes, "ec"))
	var steps []step
	for _, k := range []string{"2", "10", "b", "get", "hidden", "none", "", "07"} {
		steps = append(steps, own(v, name(k)))
	}
	names := list(str("2"), str("10"), str("b"), str("get"), str(""), str("07"))
	w.lists(v, names, steps...)
	a := w.array(yes, no, f)
	w.lists(a, list(str("0"), str("1"), str("2")), own(a, name("0")), own(a, name("1")), own(a, name("2")), own(a, name("length")))
	p := w.proxy(v, w.plain(null))
	for i := range steps {
		steps[i].o = p.Num
	}
	w.lists(p, names, steps...)
	only := w.plain(null, marked(1, yes, "wec"), marked(3, yes, "wec"))
	w.lists(only, nil)
	half := str("\xed\xa0\xbd")
	v = w.plain(null, field(half.Str, yes, "e"))
	w.lists(v, list(half), own(v, name(half.Str)))
}

func TestKeysOfNoObject(t *testing.T) {
	w := newWorld(t)
	o := w.plain(null, field("a", yes, "wec"))
	w.refuses(api.CKeys, undefined)
	w.refuses(api.CKeys, o)
	for _, v := range append(simple(), str("ab"), number(o.Num), api.Value{Kind: 7}, api.Value{Kind: -1}) {
		w.refuses(api.CKeys, undefined, v)
		w.refuses(api.CKeys, o, v, o)
	}
}

// TestKeysByTraps: the handler tells the keys and, one by one, what they are.
func TestKeysByTraps(t *testing.T) {
	w := newWorld(t)
	target := w.plain(null, field("a", yes, "wec"), field("b", yes, "wec"), field("c", yes, "wec"))
	hidden := w.plain(null, field("configurable", yes, ""), field("enumerable", no, ""))
	shown := w.plain(null, field("configurable", yes, ""), field("enumerable", yes, ""))
	told := list(str("c"), symbol(4), str("x"), str("a"), str("b"), str("7"))
	tells := map[api.Value]api.Value{str("c"): shown, str("x"): shown, str("a"): undefined, str("b"): hidden, str("7"): shown}
	var asked []api.Value
	w.Use(callerFunc(func(_ *mop.World, _ api.Thing, _ api.Value, args []api.Value) api.Reply {
		asked = append(asked, args[1])
		return api.Reply{Value: tells[args[1]]}
	}))
	p := w.proxy(target, w.plain(null, field("ownKeys", w.gives(w.array(told...)), ""), field("getOwnPropertyDescriptor", w.function(88, 0, undefined), "")))
	var steps []step
	names := list(str("c"), str("x"), str("a"), str("b"), str("7"))
	for _, k := range names {
		steps = append(steps, own(p, name(k.Str)))
	}
	w.lists(p, list(str("c"), str("x"), str("7")), steps...)
	if want := slices.Concat(names, names); !slices.Equal(asked, want) {
		t.Errorf("P1801: the handler is asked for %+v, want %+v", asked, want)
	}
}

// TestKeysThatChange: what the keys were is told once, and what they are when
// it is their turn.
func TestKeysThatChange(t *testing.T) {
	w := newWorld(t)
	target := w.plain(null, field("a", yes, "wec"), field("b", yes, "wec"), field("c", yes, "wc"))
	w.Use(callerFunc(func(_ *mop.World, f api.Thing, _ api.Value, args []api.Value) api.Reply {
		if args[1] == str("a") {
			w.Heap.Drop(target.Num, name("b"))
			w.Heap.Put(target.Num, name("c"), field("", yes, "wec").Desc)
			w.Heap.Put(target.Num, name("d"), field("", yes, "wec").Desc)
		}
		return w.n.Call(w.World, f, undefined, args)
	}))
	p := w.behind(target, "getOwnPropertyDescriptor", w.function(api.CReflect+api.MGetOwn, 0, undefined))
	r := w.call(api.CKeys, undefined, p)
	w.is("P1801: CKeys", r.Value, api.Thing{Kind: api.Array, Proto: null, Extensible: true, Props: elements(str("a"), str("c"))})
}
