package reflect

import (
	"fmt"
	"slices"
	"strings"
	"testing"

	"understudy/api"
	"understudy/mop"
)

var (
	undefined = api.Value{}
	null      = api.Value{Kind: api.Null}
	yes       = api.Value{Kind: api.Bool, Num: 1}
	no        = api.Value{Kind: api.Bool}
)

func number(n int) api.Value { return api.Value{Kind: api.Number, Num: n} }

func str(s string) api.Value { return api.Value{Kind: api.String, Str: s} }

func symbol(n int) api.Value { return api.Value{Kind: api.Symbol, Num: n} }

func obj(o int) api.Value { return api.Value{Kind: api.Object, Num: o} }

func name(s string) api.Key { return api.Key{Str: s} }

// list saves writing the type.
func list(l ...api.Value) []api.Value { return l }

// field is a data property; of the signs w, e and c: Writable, Enumerable,
// Configurable.
func field(k string, v api.Value, signs string) api.Entry {
	return api.Entry{Key: name(k), Desc: api.Desc{
		HasValue: true, HasWritable: true, HasEnumerable: true, HasConfigurable: true, Value: v,
		Writable:   strings.Contains(signs, "w"),
		Enumerable: strings.Contains(signs, "e"), Configurable: strings.Contains(signs, "c"),
	}}
}

// sides is an accessor property.
func sides(k string, get, set api.Value, signs string) api.Entry {
	return api.Entry{Key: name(k), Desc: api.Desc{
		HasGet: true, HasSet: true, HasEnumerable: true, HasConfigurable: true, Get: get, Set: set,
		Enumerable: strings.Contains(signs, "e"), Configurable: strings.Contains(signs, "c"),
	}}
}

// elements are the properties of an array.
func elements(l ...api.Value) []api.Entry {
	props := []api.Entry{field("length", number(len(l)), "w")}
	for i, v := range l {
		props = append(props, field(fmt.Sprint(i), v, "wec"))
	}
	return props
}

// world is a World with short ways to fill it.
type world struct {
	*mop.World
	t *testing.T
}

func plenty() api.Bounds { return api.Bounds{Fuel: 1000000, Room: 100000, Deep: 1000} }

func newWorld(t *testing.T) world { return world{mop.New(plenty()), t} }

func (w world) add(x api.Thing) api.Value {
	w.t.Helper()
	o, ok := w.Heap.Make(x)
	if !ok {
		w.t.Fatal("no room for what the test needs")
	}
	return obj(o)
}

// plain is an extensible object.
func (w world) plain(proto api.Value, props ...api.Entry) api.Value {
	w.t.Helper()
	return w.add(api.Thing{Proto: proto, Extensible: true, Props: props})
}

func (w world) array(l ...api.Value) api.Value {
	w.t.Helper()
	return w.add(api.Thing{Kind: api.Array, Proto: null, Extensible: true, Props: elements(l...)})
}

func (w world) function(code, n int, v api.Value, props ...api.Entry) api.Value {
	w.t.Helper()
	return w.add(api.Thing{Kind: api.Function, Proto: null, Extensible: true, Code: code, N: n, V: v, Props: props})
}

// gives is a function that returns v.
func (w world) gives(v api.Value) api.Value { return w.function(api.CConst, 0, v) }

func (w world) throws(v api.Value) api.Value { return w.function(api.CThrow, 0, v) }

func (w world) bound(target api.Value, calls, makes bool) api.Value {
	w.t.Helper()
	return w.add(api.Thing{Kind: api.Bound, Proto: null, Extensible: true, Target: target, This: str("this"), Calls: calls, Makes: makes})
}

// proxy can be called and constructed if target can.
func (w world) proxy(target, handler api.Value) api.Value {
	w.t.Helper()
	return w.add(api.Thing{
		Kind: api.Proxy, Proto: null, Extensible: true, Target: target, Handler: handler,
		Calls: w.Calls(target), Makes: w.Makes(target),
	})
}

// thing returns v as it is now.
func (w world) thing(v api.Value) api.Thing {
	w.t.Helper()
	x, ok := w.Heap.Get(v.Num)
	if !ok || v.Kind != api.Object {
		w.t.Fatalf("%v does not exist", v)
	}
	return x
}

// is checks that v is a new object that is like x.
func (w world) is(what string, v api.Value, x api.Thing) {
	w.t.Helper()
	if last := obj(w.Heap.Len() - 1); v != last {
		w.t.Fatalf("%s: %+v, want the object %d", what, v, last.Num)
	}
	if got := w.thing(v); show(got) != show(x) {
		w.t.Fatalf("%s: %+v, want %+v", what, got, x)
	}
}

// fails checks that r throws a new error of that name.
func (w world) fails(what string, r api.Reply, name string) {
	w.t.Helper()
	if v := r.Value; show(r) != show(api.Reply{Flow: api.Threw, Value: v}) {
		w.t.Fatalf("%s: %+v, want that a %s is thrown", what, r, name)
	}
	w.is(what, r.Value, api.Thing{
		Kind: api.Error, Proto: null, Extensible: true, Props: []api.Entry{field("name", str(name), "wc")},
	})
}

func (w world) replies(what string, got, want api.Reply) {
	w.t.Helper()
	if show(got) != show(want) {
		w.t.Fatalf("%s: %+v, want %+v", what, got, want)
	}
}

// does checks that r returns v and nothing else.
func (w world) does(what string, r api.Reply, v api.Value) {
	w.t.Helper()
	w.replies(what, r, api.Reply{Value: v})
}

// step is a call of Do.
type step struct {
	m, o int
	a    api.Ask
}

// top returns the calls of Do in the log from the place from on that are not
// made by others.
func (w world) top(from int) []step {
	var l []step
	log := w.Log()
	for i := len(log) - 1; i >= from; i = log[i].From - 1 {
		l = append(l, step{log[i].Method, log[i].Thing, log[i].Ask})
	}
	slices.Reverse(l)
	return l
}

// steps checks the calls of Do that are not made by others.
func (w world) steps(what string, from int, want ...step) {
	w.t.Helper()
	if got := w.top(from); show(got) != show(want) {
		w.t.Fatalf("%s: the steps are\n%+v, want\n%+v", what, got, want)
	}
}

func has(v api.Value, k string) step { return step{api.MHas, v.Num, api.Ask{Key: name(k)}} }

func get(v api.Value, k string) step {
	return step{api.MGet, v.Num, api.Ask{Key: name(k), Receiver: v}}
}

// reads are the steps of List on v, which has n elements.
func reads(v api.Value, n int) []step {
	l := []step{get(v, "length")}
	for i := range n {
		l = append(l, get(v, fmt.Sprint(i)))
	}
	return l
}

// looks are the steps of To on v, which has the fields of these names.
func looks(v api.Value, names string) []step {
	var l []step
	for _, k := range strings.Fields("enumerable configurable value writable get set") {
		l = append(l, has(v, k))
		if slices.Contains(strings.Fields(names), k) {
			l = append(l, get(v, k))
		}
	}
	return l
}

// show takes lists that are nil and lists that are empty for the same.
func show(x any) string { return fmt.Sprintf("%+v", x) }

// callerFunc is a Caller that is a function.
type callerFunc func(w *mop.World, f api.Thing, this api.Value, args []api.Value) api.Reply

func (c callerFunc) Call(w *mop.World, f api.Thing, this api.Value, args []api.Value) api.Reply {
	return c(w, f, this, args)
}

// spoil overwrites a list, also behind its end.
func spoil[T any](l []T, with T) {
	l = l[:cap(l)]
	for i := range l {
		l[i] = with
	}
}

// describe names a call.
func describe(m int, args []api.Value) string {
	return fmt.Sprintf("P1002: Call of %d %s with %+v", m, Name(m), args)
}
