package integrity

import (
	"fmt"
	"slices"
	"strings"
	"testing"

	"understudy/api"
	"understudy/mop"
)

var (
	undefined = api.Value{}
	null      = api.Value{Kind: api.Null}
	yes       = api.Value{Kind: api.Bool, Num: 1}
	no        = api.Value{Kind: api.Bool}
	ok        = api.Reply{OK: true}
	not       = api.Reply{}
)

func number(n int) api.Value { return api.Value{Kind: api.Number, Num: n} }

func str(s string) api.Value { return api.Value{Kind: api.String, Str: s} }

func symbol(n int) api.Value { return api.Value{Kind: api.Symbol, Num: n} }

func obj(o int) api.Value { return api.Value{Kind: api.Object, Num: o} }

func name(s string) api.Key { return api.Key{Str: s} }

// field is a data property; of the signs w, e and c: Writable, Enumerable,
// Configurable.
func field(k string, v api.Value, signs string) api.Entry {
	return api.Entry{Key: name(k), Desc: api.Desc{
		HasValue: true, HasWritable: true, HasEnumerable: true, HasConfigurable: true, Value: v,
		Writable:   strings.Contains(signs, "w"),
		Enumerable: strings.Contains(signs, "e"), Configurable: strings.Contains(signs, "c"),
	}}
}

// sides is an accessor property.
func sides(k string, get, set api.Value, signs string) api.Entry {
	return api.Entry{Key: name(k), Desc: api.Desc{
		HasGet: true, HasSet: true, HasEnumerable: true, HasConfigurable: true, Get: get, Set: set,
		Enumerable: strings.Contains(signs, "e"), Configurable: strings.Contains(signs, "c"),
	}}
}

// elements are the properties of an array.
func elements(l ...api.Value) []api.Entry {
	props := []api.Entry{field("length", number(len(l)), "w")}
	for i, v := range l {
		props = append(props, field(fmt.Sprint(i), v, "wec"))
	}
	return props
}

// world is a World with short ways to fill it.
type world struct {
	*mop.World
	t *testing.T
}

func plenty() api.Bounds { return api.Bounds{Fuel: 1000000, Room: 100000, Deep: 1000} }

func newWorld(t *testing.T) world { return world{mop.New(plenty()), t} }

func (w world) add(x api.Thing) api.Value {
	w.t.Helper()
	o, ok := w.Heap.Make(x)
	if !ok {
		w.t.Fatal("no room for what the test needs")
	}
	return obj(o)
}

// plain is an extensible object.
func (w world) plain(proto api.Value, props ...api.Entry) api.Value {
	w.t.Helper()
	return w.add(api.Thing{Proto: proto, Extensible: true, Props: props})
}

func (w world) array(l ...api.Value) api.Value {
	w.t.Helper()
	return w.add(api.Thing{Kind: api.Array, Proto: null, Extensible: true, Props: elements(l...)})
}

func (w world) function(code, n int, v api.Value, props ...api.Entry) api.Value {
	w.t.Helper()
	return w.add(api.Thing{Kind: api.Function, Proto: null, Extensible: true, Code: code, N: n, V: v, Props: props})
}

// gives is a function that returns v.
func (w world) gives(v api.Value) api.Value { return w.function(api.CConst, 0, v) }

func (w world) throws(v api.Value) api.Value { return w.function(api.CThrow, 0, v) }

// proxy can be called and constructed if target can.
func (w world) proxy(target, handler api.Value) api.Value {
	w.t.Helper()
	return w.add(api.Thing{
		Kind: api.Proxy, Proto: null, Extensible: true, Target: target, Handler: handler,
		Calls: w.Calls(target), Makes: w.Makes(target),
	})
}

// thing returns v as it is now.
func (w world) thing(v api.Value) api.Thing {
	w.t.Helper()
	x, ok := w.Heap.Get(v.Num)
	if !ok || v.Kind != api.Object {
		w.t.Fatalf("%v does not exist", v)
	}
	return x
}

// is checks that v is a new object that is like x.
func (w world) is(what string, v api.Value, x api.Thing) {
	w.t.Helper()
	if last := obj(w.Heap.Len() - 1); v != last {
		w.t.Fatalf("%s: %+v, want the object %d", what, v, last.Num)
	}
	if got := w.thing(v); show(got) != show(x) {
		w.t.Fatalf("%s: %+v, want %+v", what, got, x)
	}
}

// fails checks that r throws a new error of that name.
func (w world) fails(what string, r api.Reply, name string) {
	w.t.Helper()
	if v := r.Value; show(r) != show(api.Reply{Flow: api.Threw, Value: v}) {
		w.t.Fatalf("%s: %+v, want that a %s is thrown", what, r, name)
	}
	w.is(what, r.Value, api.Thing{
		Kind: api.Error, Proto: null, Extensible: true, Props: []api.Entry{field("name", str(name), "wc")},
	})
}

func (w world) replies(what string, got, want api.Reply) {
	w.t.Helper()
	if show(got) != show(want) {
		w.t.Fatalf("%s: %+v, want %+v", what, got, want)
	}
}

// call performs Set or Test on v by the name of what is done: seal, freeze,
// sealed, frozen.
func (w world) call(what string, v api.Value) api.Reply {
	switch what {
	case "seal":
		return Set(w.World, v.Num, false)
	case "freeze":
		return Set(w.World, v.Num, true)
	case "sealed":
		return Test(w.World, v.Num, false)
	}
	return Test(w.World, v.Num, true)
}

func calls() []string { return []string{"seal", "freeze", "sealed", "frozen"} }

// does checks the reply of a call, and its steps.
func (w world) does(what string, v api.Value, want api.Reply, steps ...step) {
	w.t.Helper()
	from := len(w.Log())
	w.replies(what, w.call(what, v), want)
	w.steps(what, from, steps...)
}

// only is like does, for a call that makes no objects.
func (w world) only(what string, v api.Value, want api.Reply, steps ...step) {
	w.t.Helper()
	objects := w.Heap.Len()
	w.does(what, v, want, steps...)
	if w.Heap.Len() != objects {
		w.t.Fatalf("%s: it makes %d objects", what, w.Heap.Len()-objects)
	}
}

// step is a call of Do.
type step struct {
	m, o int
	a    api.Ask
}

// top returns the calls of Do in the log from the place from on that are not
// made by others.
func (w world) top(from int) []step {
	var l []step
	log := w.Log()
	for i := len(log) - 1; i >= from; i = log[i].From - 1 {
		l = append(l, step{log[i].Method, log[i].Thing, log[i].Ask})
	}
	slices.Reverse(l)
	return l
}

func prevent(v api.Value) step { return step{api.MPrevent, v.Num, api.Ask{}} }

func isExt(v api.Value) step { return step{api.MIsExt, v.Num, api.Ask{}} }

func keysOf(v api.Value) step { return step{api.MKeys, v.Num, api.Ask{}} }

func own(v api.Value, k api.Key) step { return step{api.MGetOwn, v.Num, api.Ask{Key: k}} }

// fix is the step that seals a property.
func fix(v api.Value, k api.Key) step {
	return step{api.MDefine, v.Num, api.Ask{Key: k, Desc: api.Desc{HasConfigurable: true}}}
}

// stop is the step that freezes a data property.
func stop(v api.Value, k api.Key) step {
	return step{api.MDefine, v.Num, api.Ask{Key: k, Desc: api.Desc{HasConfigurable: true, HasWritable: true}}}
}

// steps checks the calls of Do that are not made by others.
func (w world) steps(what string, from int, want ...step) {
	w.t.Helper()
	if got := w.top(from); show(got) != show(want) {
		w.t.Fatalf("%s: the steps are\n%+v, want\n%+v", what, got, want)
	}
}

// show takes lists that are nil and lists that are empty for the same.
func show(x any) string { return fmt.Sprintf("%+v", x) }

// callerFunc is a Caller that is a function.
type callerFunc func(w *mop.World, f api.Thing, this api.Value, args []api.Value) api.Reply

func (c callerFunc) Call(w *mop.World, f api.Thing, this api.Value, args []api.Value) api.Reply {
	return c(w, f, this, args)
}
