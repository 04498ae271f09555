package natives

import (
	"fmt"
	"slices"
	"strings"
	"testing"

	"understudy/api"
	"understudy/mop"
)

var (
	undefined = api.Value{}
	null      = api.Value{Kind: api.Null}
	yes       = api.Value{Kind: api.Bool, Num: 1}
	no        = api.Value{Kind: api.Bool}
)

func number(n int) api.Value { return api.Value{Kind: api.Number, Num: n} }

func str(s string) api.Value { return api.Value{Kind: api.String, Str: s} }

func symbol(n int) api.Value { return api.Value{Kind: api.Symbol, Num: n} }

func obj(o int) api.Value { return api.Value{Kind: api.Object, Num: o} }

func name(s string) api.Key { return api.Key{Str: s} }

// list saves writing the type.
func list(l ...api.Value) []api.Value { return l }

// simple are values of all kinds that are no objects.
func simple() []api.Value {
	return list(undefined, null, yes, no, number(0), number(1), number(-7), str(""), str("a"), symbol(1), symbol(2))
}

// field is a data property; of the signs w, e and c: Writable, Enumerable,
// Configurable.
func field(k string, v api.Value, signs string) api.Entry {
	return api.Entry{Key: name(k), Desc: api.Desc{
		HasValue: true, HasWritable: true, HasEnumerable: true, HasConfigurable: true, Value: v,
		Writable:   strings.Contains(signs, "w"),
		Enumerable: strings.Contains(signs, "e"), Configurable: strings.Contains(signs, "c"),
	}}
}

// sides is an accessor property.
func sides(k string, get, set api.Value, signs string) api.Entry {
	return api.Entry{Key: name(k), Desc: api.Desc{
		HasGet: true, HasSet: true, HasEnumerable: true, HasConfigurable: true, Get: get, Set: set,
		Enumerable: strings.Contains(signs, "e"), Configurable: strings.Contains(signs, "c"),
	}}
}

// marked is a property whose key is a symbol.
func marked(sym int, v api.Value, signs string) api.Entry {
	e := field("", v, signs)
	e.Key = api.Key{Sym: sym}
	return e
}

// elements are the properties of an array.
func elements(l ...api.Value) []api.Entry {
	props := []api.Entry{field("length", number(len(l)), "w")}
	for i, v := range l {
		props = append(props, field(fmt.Sprint(i), v, "wec"))
	}
	return props
}

// world is a World with natives as its Caller, and short ways to fill it.
type world struct {
	*mop.World
	n *Natives
	t *testing.T
}

func plenty() api.Bounds { return api.Bounds{Fuel: 1000000, Room: 100000, Deep: 1000} }

func newWorld(t *testing.T) world { return bounded(t, plenty()) }

func bounded(t *testing.T, b api.Bounds) world {
	w := world{mop.New(b), &Natives{}, t}
	w.Use(w.n)
	return w
}

func (w world) add(x api.Thing) api.Value {
	w.t.Helper()
	o, ok := w.Heap.Make(x)
	if !ok {
		w.t.Fatal("no room for what the test needs")
	}
	return obj(o)
}

// plain is an extensible object.
func (w world) plain(proto api.Value, props ...api.Entry) api.Value {
	w.t.Helper()
	return w.add(api.Thing{Proto: proto, Extensible: true, Props: props})
}

func (w world) array(l ...api.Value) api.Value {
	w.t.Helper()
	return w.add(api.Thing{Kind: api.Array, Proto: null, Extensible: true, Props: elements(l...)})
}

func (w world) function(code, n int, v api.Value, props ...api.Entry) api.Value {
	w.t.Helper()
	return w.add(api.Thing{Kind: api.Function, Proto: null, Extensible: true, Code: code, N: n, V: v, Props: props})
}

// gives is a function that returns v.
func (w world) gives(v api.Value) api.Value { return w.function(api.CConst, 0, v) }

func (w world) throws(v api.Value) api.Value { return w.function(api.CThrow, 0, v) }

// class is a function that can be called and is a constructor.
func (w world) class() api.Value { return w.function(api.CWritten, 0, undefined) }

func (w world) bound(target api.Value, calls, makes bool) api.Value {
	w.t.Helper()
	return w.add(api.Thing{Kind: api.Bound, Proto: null, Extensible: true, Target: target, This: str("this"), Calls: calls, Makes: makes})
}

// proxy can be called and constructed if target can.
func (w world) proxy(target, handler api.Value) api.Value {
	w.t.Helper()
	return w.flagged(target, handler, w.Calls(target), w.Makes(target))
}

// flagged is a proxy with any flags.
func (w world) flagged(target, handler api.Value, calls, makes bool) api.Value {
	w.t.Helper()
	return w.add(api.Thing{Kind: api.Proxy, Proto: null, Extensible: true, Target: target, Handler: handler, Calls: calls, Makes: makes})
}

// behind is a proxy of target that has one trap.
func (w world) behind(target api.Value, trap string, f api.Value) api.Value {
	w.t.Helper()
	return w.proxy(target, w.plain(null, field(trap, f, "")))
}

func (w world) revoked() api.Value { return w.flagged(null, null, false, false) }

// thing returns v as it is now.
func (w world) thing(v api.Value) api.Thing {
	w.t.Helper()
	x, ok := w.Heap.Get(v.Num)
	if !ok || v.Kind != api.Object {
		w.t.Fatalf("%v does not exist", v)
	}
	return x
}

func (w world) objects() []api.Thing { return w.newFrom(0) }

// newFrom returns the objects from the number o on.
func (w world) newFrom(o int) []api.Thing {
	var l []api.Thing
	for ; o < w.Heap.Len(); o++ {
		l = append(l, w.thing(obj(o)))
	}
	return l
}

// copied is a world with the bounds b and the same objects.
func (w world) copied(b api.Bounds) world {
	twin := bounded(w.t, b)
	for _, x := range w.objects() {
		twin.add(x)
	}
	return twin
}

// call performs a function.
func (w world) call(code int, this api.Value, args ...api.Value) api.Reply {
	return w.n.Call(w.World, function(code), this, args)
}

func function(code int) api.Thing {
	return api.Thing{Kind: api.Function, Proto: null, Extensible: true, Code: code}
}

// is checks that v is a new object that is like x.
func (w world) is(what string, v api.Value, x api.Thing) {
	w.t.Helper()
	if last := obj(w.Heap.Len() - 1); v != last {
		w.t.Fatalf("%s: %+v, want the object %d", what, v, last.Num)
	}
	if got := w.thing(v); show(got) != show(x) {
		w.t.Fatalf("%s: %+v, want %+v", what, got, x)
	}
}

// makes checks that r returns an object that is like x, and that it is the only
// new one of which there were so many before.
func (w world) makes(what string, before int, r api.Reply, x api.Thing) {
	w.t.Helper()
	w.does(what, r, r.Value)
	w.is(what, r.Value, x)
	if n := w.Heap.Len() - before; n != 1 {
		w.t.Fatalf("%s: %d objects are new", what, n)
	}
}

// fails checks that r throws a new error of that name.
func (w world) fails(what string, r api.Reply, name string) {
	w.t.Helper()
	if v := r.Value; show(r) != show(api.Reply{Flow: api.Threw, Value: v}) {
		w.t.Fatalf("%s: %+v, want that a %s is thrown", what, r, name)
	}
	w.is(what, r.Value, api.Thing{
		Kind: api.Error, Proto: null, Extensible: true, Props: []api.Entry{field("name", str(name), "wc")},
	})
}

// refuses checks that a function throws a TypeError and does nothing else.
func (w world) refuses(code int, this api.Value, args ...api.Value) {
	w.t.Helper()
	what := describe(code, this, args)
	before, from := w.objects(), len(w.Log())
	fuel, deepest := w.Left()
	w.fails(what, w.call(code, this, args...), "TypeError")
	if left, deep := w.Left(); left != fuel || deep != deepest || len(w.Log()) != from {
		w.t.Fatalf("%s: it takes %d steps", what, fuel-left)
	}
	if after := w.objects(); show(after[:len(after)-1]) != show(before) {
		w.t.Fatalf("%s: there are other objects than before and the error", what)
	}
}

func (w world) replies(what string, got, want api.Reply) {
	w.t.Helper()
	if show(got) != show(want) {
		w.t.Fatalf("%s: %+v, want %+v", what, got, want)
	}
}

// does checks that r returns v and nothing else.
func (w world) does(what string, r api.Reply, v api.Value) {
	w.t.Helper()
	w.replies(what, r, api.Reply{Value: v})
}

// quiet checks that a function returns v without a step, and that no objects
// change.
func (w world) quiet(v api.Value, code int, this api.Value, args ...api.Value) {
	w.t.Helper()
	what := describe(code, this, args)
	before := w.objects()
	fuel, deepest := w.Left()
	w.does(what, w.call(code, this, args...), v)
	if left, deep := w.Left(); left != fuel || deep != deepest {
		w.t.Fatalf("%s: it takes %d steps", what, fuel-left)
	}
	if show(w.objects()) != show(before) {
		w.t.Fatalf("%s: there are other objects than before", what)
	}
}

// step is a call of Do.
type step struct {
	m, o int
	a    api.Ask
}

func do(m int, v api.Value) step { return step{m, v.Num, api.Ask{}} }

func own(v api.Value, k api.Key) step { return step{api.MGetOwn, v.Num, api.Ask{Key: k}} }

// top returns the calls of Do in the log from the place from on that are not
// made by others.
func (w world) top(from int) []step {
	var l []step
	log := w.Log()
	for i := len(log) - 1; i >= from; i = log[i].From - 1 {
		l = append(l, step{log[i].Method, log[i].Thing, log[i].Ask})
	}
	slices.Reverse(l)
	return l
}

// steps checks the calls of Do that are not made by others.
func (w world) steps(what string, from int, want ...step) {
	w.t.Helper()
	if got := w.top(from); show(got) != show(want) {
		w.t.Fatalf("%s: the steps are\n%+v, want\n%+v", what, got, want)
	}
}

// show takes lists that are nil and lists that are empty for the same.
func show(x any) string { return fmt.Sprintf("%+v", x) }

// callerFunc is a Caller that is a function.
type callerFunc func(w *mop.World, f api.Thing, this api.Value, args []api.Value) api.Reply

func (c callerFunc) Call(w *mop.World, f api.Thing, this api.Value, args []api.Value) api.Reply {
	return c(w, f, this, args)
}

// describe names a call.
func describe(code int, this api.Value, args []api.Value) string {
	return fmt.Sprintf("P1801: Call of the Code %d on %+v with %+v", code, this, args)
}

// codes are those of all functions.
func codes() []int {
	l := []int{
		api.CProxy, api.CRevocable, api.CRevoke, api.CPrint, api.CSymbol, api.CIsArray, api.CBind, api.CCall,
		api.CCreate, api.CFreeze, api.CSeal, api.CFrozen, api.CSealed, api.CKeys,
	}
	for m := api.MGetProto; m <= api.MConstruct; m++ {
		l = append(l, api.CReflect+m)
	}
	return l
}
