package mop

import (
	"fmt"
	"math"
	"slices"
	"strings"
	"testing"

	"understudy/api"
	"understudy/heap"
)

var (
	undefined = api.Value{}
	null      = api.Value{Kind: api.Null}
	yes       = api.Value{Kind: api.Bool, Num: 1}
	no        = api.Value{Kind: api.Bool}
)

func number(n int) api.Value { return api.Value{Kind: api.Number, Num: n} }

func str(s string) api.Value { return api.Value{Kind: api.String, Str: s} }

func symbol(n int) api.Value { return api.Value{Kind: api.Symbol, Num: n} }

func obj(o int) api.Value { return api.Value{Kind: api.Object, Num: o} }

func name(s string) api.Key { return api.Key{Str: s} }

// field is a data property; of the signs w, e and c: Writable, Enumerable,
// Configurable.
func field(k string, v api.Value, signs string) api.Entry {
	return api.Entry{Key: name(k), Desc: dataDesc(v, signs)}
}

func dataDesc(v api.Value, signs string) api.Desc {
	return api.Desc{
		HasValue: true, HasWritable: true, HasEnumerable: true, HasConfigurable: true, Value: v,
		Writable:   strings.Contains(signs, "w"),
		Enumerable: strings.Contains(signs, "e"), Configurable: strings.Contains(signs, "c"),
	}
}

// sides is an accessor property.
func sides(k string, get, set api.Value, signs string) api.Entry {
	return api.Entry{Key: name(k), Desc: api.Desc{
		HasGet: true, HasSet: true, HasEnumerable: true, HasConfigurable: true, Get: get, Set: set,
		Enumerable: strings.Contains(signs, "e"), Configurable: strings.Contains(signs, "c"),
	}}
}

func only(v api.Value) api.Desc { return api.Desc{HasValue: true, Value: v} }

// world is a World with short ways to fill it.
type world struct {
	*World
	t *testing.T
}

func newWorld(t *testing.T) world {
	return world{New(api.Bounds{Fuel: 1000000, Room: 100000, Deep: 1000}), t}
}

func (w world) add(x api.Thing) api.Value {
	w.t.Helper()
	o, ok := w.Heap.Make(x)
	if !ok {
		w.t.Fatal("no room for what the test needs")
	}
	return obj(o)
}

// plain is an extensible object.
func (w world) plain(proto api.Value, props ...api.Entry) api.Value {
	return w.add(api.Thing{Proto: proto, Extensible: true, Props: props})
}

// closed is an object that is not extensible.
func (w world) closed(proto api.Value, props ...api.Entry) api.Value {
	return w.add(api.Thing{Proto: proto, Props: props})
}

func (w world) array(l ...api.Value) api.Value {
	props := []api.Entry{field("length", number(len(l)), "w")}
	for i, v := range l {
		props = append(props, field(fmt.Sprint(i), v, "wec"))
	}
	return w.add(api.Thing{Kind: api.Array, Proto: null, Extensible: true, Props: props})
}

func (w world) function(x api.Thing) api.Value {
	x.Kind, x.Proto, x.Extensible = api.Function, null, true
	return w.add(x)
}

// gives is a function that returns v.
func (w world) gives(v api.Value) api.Value {
	return w.function(api.Thing{Code: api.CConst, V: v})
}

func (w world) throws(v api.Value) api.Value {
	return w.function(api.Thing{Code: api.CThrow, V: v})
}

// custom is a function that the Caller performs.
func (w world) custom() api.Value { return w.function(api.Thing{Code: api.CPrint}) }

func (w world) written(props ...api.Entry) api.Value {
	return w.function(api.Thing{Code: api.CWritten, Props: props})
}

// proxy stands in for target; it can be called and makes objects.
func (w world) proxy(target, handler api.Value) api.Value {
	return w.add(api.Thing{Kind: api.Proxy, Proto: null, Extensible: true, Target: target, Handler: handler, Calls: true, Makes: true})
}

// thing returns v as it is now.
func (w world) thing(v api.Value) api.Thing {
	x, ok := w.Heap.Get(v.Num)
	if !ok || v.Kind != api.Object {
		w.t.Fatalf("%v does not exist", v)
	}
	return x
}

func (w world) do(m int, v api.Value, a api.Ask) api.Reply { return w.Do(m, v.Num, a) }

// throwsError checks that r throws a new error of that name.
func (w world) throwsError(what string, r api.Reply, name string) {
	w.t.Helper()
	last := obj(w.Heap.Len() - 1)
	if !same(r, api.Reply{Flow: api.Threw, Value: last}) {
		w.t.Fatalf("%s: %+v, want that the error %d is thrown", what, r, last.Num)
	}
	want := api.Thing{Kind: api.Error, Proto: null, Extensible: true, Props: []api.Entry{field("name", str(name), "wc")}}
	if got := w.thing(last); !sameThing(got, want) {
		w.t.Fatalf("%s: %+v is thrown, want %+v", what, got, want)
	}
}

func (w world) replies(what string, got, want api.Reply) {
	w.t.Helper()
	if !same(got, want) {
		w.t.Fatalf("%s: %+v, want %+v", what, got, want)
	}
}

// steps are the elements of the log from the place from on, like
// "get 3 a", where what is asked beyond a key is left out.
func (w world) steps(from int) string {
	var l []string
	for _, s := range w.Log()[from:] {
		l = append(l, step(s))
	}
	return strings.Join(l, ", ")
}

func step(s api.Seen) string {
	text := fmt.Sprint(shortNames[s.Method], " ", s.Thing)
	if api.MGetOwn <= s.Method && s.Method <= api.MDelete {
		text += " " + s.Ask.Key.Str
	}
	return text
}

var shortNames = [...]string{
	api.MGetProto: "getProto", api.MSetProto: "setProto", api.MIsExt: "isExt", api.MPrevent: "prevent",
	api.MGetOwn: "getOwn", api.MDefine: "define", api.MHas: "has", api.MGet: "get", api.MSet: "set",
	api.MDelete: "delete", api.MKeys: "keys", api.MCall: "call", api.MConstruct: "construct",
}

// same, sameSeen and sameThing take lists that are nil and lists that are empty
// for the same.
func same(a, b api.Reply) bool {
	return a.Flow == b.Flow && a.Value == b.Value && a.OK == b.OK && a.Has == b.Has && a.Desc == b.Desc && slices.Equal(a.Keys, b.Keys)
}

func sameSeen(a, b api.Seen) bool {
	x, y := a.Ask, b.Ask
	return a.Method == b.Method && a.Thing == b.Thing && a.From == b.From && same(a.Reply, b.Reply) &&
		x.Key == y.Key && x.Value == y.Value && x.Receiver == y.Receiver && x.Desc == y.Desc && slices.Equal(x.List, y.List)
}

func sameThing(a, b api.Thing) bool {
	if !slices.Equal(a.Props, b.Props) || !slices.Equal(a.Args, b.Args) {
		return false
	}
	a.Props, a.Args, b.Props, b.Args = nil, nil, nil, nil
	return show(a) == show(b)
}

// show takes lists that are nil and lists that are empty for the same.
func show(x any) string { return fmt.Sprintf("%+v", x) }

// callerFunc is a Caller that is a function.
type callerFunc func(w *World, f api.Thing, this api.Value, args []api.Value) api.Reply

func (c callerFunc) Call(w *World, f api.Thing, this api.Value, args []api.Value) api.Reply {
	return c(w, f, this, args)
}

func TestNew(t *testing.T) {
	for _, x := range []struct {
		b                api.Bounds
		fuel, room, deep int
	}{
		{api.Bounds{}, 0, 0, 0},
		{api.Bounds{Fuel: 3, Room: 2, Deep: 5}, 3, 2, 5},
		{api.Bounds{Fuel: -1, Room: -1, Deep: -1}, 0, 0, 0},
		{api.Bounds{Fuel: math.MinInt, Room: math.MinInt, Deep: math.MinInt}, 0, 0, 0},
		{api.Bounds{Fuel: 5000, Room: 4, Deep: 999}, 5000, 4, 999},
		{api.Bounds{Fuel: 5000, Room: 4, Deep: 1000}, 5000, 4, 1000},
		{api.Bounds{Fuel: 5000, Room: 4, Deep: 1001}, 5000, 4, 1000},
		{api.Bounds{Fuel: math.MaxInt, Room: 4, Deep: math.MaxInt}, math.MaxInt, 4, 1000},
	} {
		w := New(x.b)
		if fuel, deepest := w.Left(); fuel != x.fuel || deepest != 0 {
			t.Errorf("%+v: Left = %d, %d, want %d, 0", x.b, fuel, deepest, x.fuel)
		}
		if len(w.Log()) != 0 || w.Heap.Len() != 0 {
			t.Errorf("%+v: a new world is not empty", x.b)
		}
		for i := range x.room {
			if o, ok := w.Heap.Make(api.Thing{}); o != i || !ok {
				t.Errorf("%+v: Make = %d, %v", x.b, o, ok)
			}
		}
		if _, ok := w.Heap.Make(api.Thing{}); ok {
			t.Errorf("%+v: room for more than %d objects", x.b, x.room)
		}
		if x.fuel > 4000 && depthOf(w) != x.deep {
			t.Errorf("%+v: the depth reaches %d, want %d", x.b, depthOf(w), x.deep)
		}
	}
}

// depthOf returns how deep w goes on a row of prototypes that has no end.
func depthOf(w *World) int {
	w.Heap.Set(0, api.Thing{Proto: obj(0)})
	w.Do(api.MHas, 0, api.Ask{Key: name("a")})
	_, deepest := w.Left()
	return deepest
}

func TestStep(t *testing.T) {
	w := New(api.Bounds{Fuel: 3})
	for left := 2; left >= 0; left-- {
		if r := w.Step(); show(r) != show(api.Reply{}) {
			t.Errorf("Step = %+v", r)
		}
		if fuel, _ := w.Left(); fuel != left {
			t.Errorf("Left = %d, want %d", fuel, left)
		}
	}
	for range 3 {
		if r := w.Step(); show(r) != show(api.Reply{Flow: api.NoFuel}) {
			t.Errorf("Step without fuel = %+v", r)
		}
		if fuel, _ := w.Left(); fuel != 0 {
			t.Errorf("Left = %d, want 0", fuel)
		}
	}
	if len(w.Log()) != 0 {
		t.Error("Step is in the log")
	}
}

func TestFail(t *testing.T) {
	w := world{New(api.Bounds{Room: 3}), t}
	for _, name := range []string{"TypeError", "", "anything"} {
		w.throwsError("Fail", w.Fail(name), name)
	}
	for range 2 {
		w.replies("Fail without room", w.Fail("TypeError"), api.Reply{Flow: api.NoRoom})
	}
	if w.Heap.Len() != 3 || len(w.Log()) != 0 {
		t.Errorf("Fail leaves %d objects and the log %v", w.Heap.Len(), w.Log())
	}
}

func TestCallsAndMakes(t *testing.T) {
	w := newWorld(t)
	type row struct {
		v            api.Value
		calls, makes bool
	}
	rows := []row{
		{undefined, false, false}, {null, false, false}, {yes, false, false}, {number(0), false, false},
		{str("f"), false, false}, {symbol(1), false, false}, {api.Value{Kind: 77}, false, false},
		{obj(-1), false, false}, {obj(1000), false, false}, {obj(math.MaxInt), false, false}, {obj(math.MinInt), false, false},
	}
	for _, code := range []int{0, api.CConst, api.CThrow, api.CArg, api.CThis, api.CReflect, api.CReflect + 13, api.CRevocable, api.CRevoke, api.CKeys, -1, 1000} {
		rows = append(rows, row{w.function(api.Thing{Code: code}), true, false})
	}
	for _, code := range []int{api.CWritten, api.CProxy} {
		rows = append(rows, row{w.function(api.Thing{Code: code}), true, true})
	}
	for i := range 4 {
		calls, makes := i%2 == 1, i/2 == 1
		for _, kind := range []int{api.Bound, api.Proxy} {
			rows = append(rows, row{w.add(api.Thing{Kind: kind, Code: api.CWritten, Target: null, Handler: null, Calls: calls, Makes: makes}), calls, makes})
		}
		for _, kind := range []int{api.Plain, api.Array, api.Error, -1, 6} {
			rows = append(rows, row{w.add(api.Thing{Kind: kind, Code: api.CWritten, Calls: calls, Makes: makes}), false, false})
		}
		rows = append(rows, row{w.function(api.Thing{Code: api.CConst, Calls: calls, Makes: makes}), true, false})
	}
	for _, x := range rows {
		if w.Calls(x.v) != x.calls || w.Makes(x.v) != x.makes {
			t.Errorf("%+v: Calls = %v, Makes = %v", x.v, w.Calls(x.v), w.Makes(x.v))
		}
	}
	if fuel, deepest := w.Left(); fuel != 1000000 || deepest != 0 || len(w.Log()) != 0 {
		t.Error("Calls and Makes leave a trace")
	}
}

func TestDoOfNothing(t *testing.T) {
	for _, x := range [][2]int{
		{0, 0}, {-1, 0}, {14, 0}, {math.MinInt, 0}, {math.MaxInt, 0},
		{api.MGet, -1}, {api.MGet, 7}, {api.MCall, math.MinInt}, {api.MKeys, math.MaxInt}, {0, -1},
	} {
		// Neither fuel nor depth matters, since it is checked before them.
		w := world{New(api.Bounds{Room: 2}), t}
		w.plain(null)
		w.throwsError(fmt.Sprint("P901: Do of ", x), w.Do(x[0], x[1], api.Ask{}), "TypeError")
		w.replies("P901: without room", w.Do(x[0], x[1], api.Ask{}), api.Reply{Flow: api.NoRoom})
		if len(w.Log()) != 0 {
			t.Error("P901: Do of nothing is in the log")
		}
	}
}

func TestFuelAndDepthOfDo(t *testing.T) {
	for _, x := range []struct {
		b             api.Bounds
		flow          int
		fuel, deepest int
	}{
		{api.Bounds{Fuel: 2, Deep: 1}, api.Done, 1, 1},
		{api.Bounds{Fuel: 1, Deep: 1}, api.Done, 0, 1},
		{api.Bounds{Fuel: 0, Deep: 1}, api.NoFuel, 0, 0},
		{api.Bounds{Fuel: 0, Deep: 0}, api.NoFuel, 0, 0},
		{api.Bounds{Fuel: 1, Deep: 0}, api.TooDeep, 0, 0},
		{api.Bounds{Fuel: 9, Deep: -5}, api.TooDeep, 8, 0},
	} {
		x.b.Room = 1
		w := world{New(x.b), t}
		v := w.plain(null)
		w.replies(fmt.Sprintf("P901: %+v", x.b), w.do(api.MIsExt, v, api.Ask{}), api.Reply{Flow: x.flow, OK: x.flow == api.Done})
		if fuel, deepest := w.Left(); fuel != x.fuel || deepest != x.deepest {
			t.Errorf("P901: %+v: Left = %d, %d", x.b, fuel, deepest)
		}
		if done := x.flow == api.Done; (len(w.Log()) == 1) != done {
			t.Errorf("P901: %+v: the log has %d elements", x.b, len(w.Log()))
		}
	}
}

// TestDepth: each prototype is one level deeper, and the level is left again.
func TestDepth(t *testing.T) {
	for deep := range 8 {
		w := world{New(api.Bounds{Fuel: 1000, Room: 10, Deep: deep}), t}
		v := null
		for range 3 {
			v = w.plain(v)
		}
		// Do MHas on each of the three objects, and on each Do MGetOwn and Do
		// MGetProto one level deeper.
		want := api.Reply{}
		if deep < 4 {
			want.Flow = api.TooDeep
		}
		for range 3 {
			w.replies(fmt.Sprint("P901: Deep ", deep), w.do(api.MHas, v, api.Ask{Key: name("a")}), want)
			if _, deepest := w.Left(); deepest != min(deep, 4) {
				t.Errorf("P901: Deep %d: the greatest depth is %d", deep, deepest)
			}
		}
	}
}

// TestDepthInTheCaller: what the Caller does is one level deeper than the call.
func TestDepthInTheCaller(t *testing.T) {
	w := newWorld(t)
	v, f := w.plain(null), w.custom()
	depths := []int{}
	w.Use(callerFunc(func(x *World, _ api.Thing, _ api.Value, args []api.Value) api.Reply {
		if len(args) > 0 {
			x.Do(api.MCall, f.Num, api.Ask{List: args[1:]})
		}
		x.Do(api.MIsExt, v.Num, api.Ask{})
		_, deepest := x.Left()
		depths = append(depths, deepest)
		return api.Reply{}
	}))
	for n := range 4 {
		w.do(api.MCall, f, api.Ask{List: make([]api.Value, n)})
	}
	if want := "[2 3 3 4 4 4 5 5 5 5]"; show(depths) != want {
		t.Errorf("P901: depths %v, want %s", depths, want)
	}
}

// TestDepthAfterAPanic: a Caller that panics does not leave the world deep.
func TestDepthAfterAPanic(t *testing.T) {
	w := world{New(api.Bounds{Fuel: 100, Room: 5, Deep: 2}), t}
	f := w.custom()
	w.Use(callerFunc(func(*World, api.Thing, api.Value, []api.Value) api.Reply { panic("over") }))
	for range 3 {
		func() {
			defer func() { recover() }()
			w.do(api.MCall, f, api.Ask{})
		}()
	}
	w.replies("P901", w.do(api.MIsExt, f, api.Ask{}), api.Reply{OK: true})
}

func TestLog(t *testing.T) {
	w := newWorld(t)
	base := w.plain(null, field("a", number(1), "wec"))
	v := w.plain(base)
	get := api.Ask{Key: name("a"), Receiver: v, Value: number(9), Desc: only(number(8)), List: []api.Value{number(7)}}
	w.do(api.MKeys, base, api.Ask{})
	w.do(api.MGet, v, get)
	w.do(api.MCall, v, api.Ask{})
	ask := api.Ask{Key: name("a")}
	want := []api.Seen{
		{Method: api.MKeys, Thing: 0, From: 0, Reply: api.Reply{Keys: []api.Key{name("a")}}},
		{Method: api.MGetOwn, Thing: 1, From: 1, Ask: ask},
		{Method: api.MGetProto, Thing: 1, From: 2, Reply: api.Reply{Value: base}},
		{Method: api.MGetOwn, Thing: 0, From: 3, Ask: ask, Reply: api.Reply{Has: true, Desc: dataDesc(number(1), "wec")}},
		{Method: api.MGet, Thing: 0, From: 3, Ask: api.Ask{Key: name("a"), Receiver: v}, Reply: api.Reply{Value: number(1)}},
		{Method: api.MGet, Thing: 1, From: 1, Ask: get, Reply: api.Reply{Value: number(1)}},
	}
	if got := w.Log(); show(got) != show(want) {
		t.Errorf("P901: the log is\n%+v, want\n%+v", got, want)
	}
	if fuel, deepest := w.Left(); fuel != 1000000-7 || deepest != 3 {
		t.Errorf("P901: Left = %d, %d", fuel, deepest)
	}
}

// TestOnlyDoneIsLogged: calls around one that is abrupt are not in the log,
// those before it are.
func TestOnlyDoneIsLogged(t *testing.T) {
	w := newWorld(t)
	f := w.throws(number(5))
	v := w.plain(null, sides("a", f, f, "c"))
	from := w.plain(v)
	w.replies("P902", w.do(api.MGet, from, api.Ask{Key: name("a"), Receiver: from}), api.Reply{Flow: api.Threw, Value: number(5)})
	if got, want := w.steps(0), "getOwn 2 a, getProto 2, getOwn 1 a"; got != want {
		t.Errorf("P901: the log is %s, want %s", got, want)
	}
	if fuel, _ := w.Left(); fuel != 1000000-6 {
		t.Errorf("P901: Left = %d", fuel)
	}
}

// TestZeroWorld: also a world that New did not make answers.
func TestZeroWorld(t *testing.T) {
	for _, w := range []*World{{}, {Heap: &heap.Heap{}}} {
		none := api.Reply{Flow: api.NoRoom}
		for m := range 15 {
			if r := w.Do(m, 0, api.Ask{}); show(r) != show(none) {
				t.Errorf("Do(%d) = %+v", m, r)
			}
		}
		_, to := w.To(obj(0))
		_, from := w.From(api.Desc{})
		_, list := w.List(obj(0))
		_, array := w.Array(nil)
		for _, r := range []api.Reply{w.Fail(""), to, from, list, array} {
			if show(r) != show(none) {
				t.Errorf("the reply is %+v", r)
			}
		}
		if w.Calls(obj(0)) || w.Makes(obj(0)) || w.Step().Flow != api.NoFuel || len(w.Log()) != 0 {
			t.Error("an empty world is not empty")
		}
	}
}
