package realm

import (
	"fmt"
	"slices"
	"strings"
	"testing"

	"understudy/api"
	"understudy/mop"
	"understudy/natives"
	"understudy/scope"
)

var (
	undefined = api.Value{}
	null      = api.Value{Kind: api.Null}
	yes       = api.Value{Kind: api.Bool, Num: 1}
	no        = api.Value{Kind: api.Bool}
)

func number(n int) api.Value { return api.Value{Kind: api.Number, Num: n} }

func str(s string) api.Value { return api.Value{Kind: api.String, Str: s} }

func symbol(n int) api.Value { return api.Value{Kind: api.Symbol, Num: n} }

func obj(o int) api.Value { return api.Value{Kind: api.Object, Num: o} }

func name(s string) api.Key { return api.Key{Str: s} }

// list saves writing the type.
func list(l ...api.Value) []api.Value { return l }

// someValues are values of all kinds.
func someValues() []api.Value {
	return list(undefined, null, yes, no, number(0), number(7), number(-7), str(""), str("a"), str("length"), symbol(1), symbol(2), obj(0), obj(2), obj(5))
}

// field is a data property; of the signs w, e and c: Writable, Enumerable,
// Configurable.
func field(k string, v api.Value, signs string) api.Entry {
	return api.Entry{Key: name(k), Desc: api.Desc{
		HasValue: true, HasWritable: true, HasEnumerable: true, HasConfigurable: true, Value: v,
		Writable:   strings.Contains(signs, "w"),
		Enumerable: strings.Contains(signs, "e"), Configurable: strings.Contains(signs, "c"),
	}}
}

// array is what List creates.
func array(l []api.Value) api.Thing {
	x := api.Thing{Kind: api.Array, Proto: obj(2), Extensible: true, Props: []api.Entry{field("length", number(len(l)), "w")}}
	for i, v := range l {
		x.Props = append(x.Props, field(fmt.Sprint(i), v, "wec"))
	}
	return x
}

// world is a World with the scopes that Build filled together with it.
type world struct {
	*mop.World
	scopes *scope.Scopes
	n      *natives.Natives
	t      *testing.T
}

func plenty() api.Bounds { return api.Bounds{Fuel: 1000000, Room: 100000, Deep: 1000} }

// empty is a new world with new scopes.
func empty(t *testing.T, b api.Bounds) world {
	w := world{mop.New(b), scope.New(), &natives.Natives{}, t}
	w.Use(w.n)
	return w
}

// built is a world that Build filled.
func built(t *testing.T) world {
	t.Helper()
	w := empty(t, plenty())
	w.replies("P1901: Build", w.build(), api.Reply{})
	return w
}

func (w world) build() api.Reply { return Build(w.World, w.scopes) }

// thing returns v as it is now.
func (w world) thing(v api.Value) api.Thing {
	w.t.Helper()
	x, ok := w.Heap.Get(v.Num)
	if !ok || v.Kind != api.Object {
		w.t.Fatalf("%v does not exist", v)
	}
	return x
}

func (w world) objects() []api.Thing {
	var l []api.Thing
	for o := range w.Heap.Len() {
		l = append(l, w.thing(obj(o)))
	}
	return l
}

// global returns the value of a name in scope 0.
func (w world) global(s string) api.Value {
	w.t.Helper()
	v, state := w.scopes.Get(0, s)
	if state != 0 {
		w.t.Fatalf("P1901: Get of %q in scope 0 = %+v, %d", s, v, state)
	}
	return v
}

func (w world) get(v api.Value, k string) api.Value {
	w.t.Helper()
	return w.done(w.Do(api.MGet, v.Num, api.Ask{Key: name(k), Receiver: v})).Value
}

func (w world) call(f, this api.Value, args ...api.Value) api.Value {
	w.t.Helper()
	return w.done(w.Do(api.MCall, f.Num, api.Ask{Receiver: this, List: args})).Value
}

// done checks that nothing went wrong with what a test needs.
func (w world) done(r api.Reply) api.Reply {
	w.t.Helper()
	if r.Flow != api.Done {
		w.t.Fatalf("%+v, want a reply that is Done", r)
	}
	return r
}

func (w world) replies(what string, got, want api.Reply) {
	w.t.Helper()
	if show(got) != show(want) {
		w.t.Fatalf("%s: %+v, want %+v", what, got, want)
	}
}

// has checks all objects of the world.
func (w world) has(what string, want []api.Thing) {
	w.t.Helper()
	got := w.objects()
	for o := range max(len(got), len(want)) {
		if o >= len(got) || o >= len(want) {
			w.t.Fatalf("%s: there are %d objects, want %d", what, len(got), len(want))
		}
		if show(got[o]) != show(want[o]) {
			w.t.Fatalf("%s: the object %d is\n%+v, want\n%+v", what, o, got[o], want[o])
		}
	}
}

// quiet checks that f takes no steps.
func (w world) quiet(what string, f func()) {
	w.t.Helper()
	fuel, deepest := w.Left()
	log := len(w.Log())
	f()
	left, deep := w.Left()
	if left != fuel || deep != deepest || len(w.Log()) != log {
		w.t.Fatalf("%s: it takes %d units of fuel, %d levels and %d methods", what, fuel-left, deep, len(w.Log())-log)
	}
}

// show takes lists that are nil and lists that are empty for the same.
func show(x any) string { return fmt.Sprintf("%+v", x) }

// callerFunc is a Caller that is a function.
type callerFunc func(w *mop.World, f api.Thing, this api.Value, args []api.Value) api.Reply

func (c callerFunc) Call(w *mop.World, f api.Thing, this api.Value, args []api.Value) api.Reply {
	return c(w, f, this, args)
}

// spoil overwrites a list, also behind its end.
func spoil[T any](l []T, with T) {
	l = l[:cap(l)]
	for i := range l {
		l[i] = with
	}
}

// roomy is l with something behind its end.
func roomy[T any](l []T, with T) []T {
	return append(slices.Clone(l), with, with, with)[:len(l)]
}
