package natives

import (
	"fmt"
	deep "reflect"
	"slices"
	"testing"

	"understudy/api"
	"understudy/integrity"
	"understudy/keys"
	"understudy/mop"
	"understudy/reflect"
	"understudy/values"
)

// slow does, one after the other, what P1801 says; out are the lines.
func slow(w *mop.World, out *[]string, f api.Thing, this api.Value, args []api.Value) api.Reply {
	var first, second api.Value
	if len(args) >= 1 {
		first = args[0]
	}
	if len(args) >= 2 {
		second = args[1]
	}
	made := func(x api.Thing) api.Reply { return slowMake(w, x) }
	proxy := func() api.Reply {
		if first.Kind != api.Object || second.Kind != api.Object {
			return w.Fail("TypeError")
		}
		return made(api.Thing{Kind: api.Proxy, Proto: null, Target: first, Handler: second, Calls: w.Calls(first), Makes: w.Makes(first)})
	}
	switch code := f.Code; {
	case code > api.CReflect && code <= api.CReflect+13:
		return reflect.Call(w, code-api.CReflect, args)
	case code == api.CProxy:
		return proxy()
	case code == api.CRevocable:
		p := proxy()
		if p.Flow != api.Done {
			return p
		}
		r := made(api.Thing{Kind: api.Function, Proto: null, Code: api.CRevoke, V: p.Value})
		if r.Flow != api.Done {
			return r
		}
		return made(api.Thing{Proto: null, Props: []api.Entry{field("proxy", p.Value, "wec"), field("revoke", r.Value, "wec")}})
	case code == api.CRevoke:
		if x, _ := w.Heap.Get(f.V.Num); f.V.Kind == api.Object && x.Kind == api.Proxy {
			x.Target, x.Handler = null, null
			w.Heap.Set(f.V.Num, x)
		}
		return api.Reply{}
	case code == api.CPrint:
		line := ""
		for i, v := range args {
			if i > 0 {
				line += " "
			}
			line += values.Show(v, w.Calls(v))
		}
		*out = append(*out, line)
		return api.Reply{}
	case code == api.CSymbol:
		return api.Reply{Value: symbol(w.Heap.Symbol())}
	case code == api.CBind, code == api.CCall:
		return slowInvoke(w, code, this, args)
	case code == api.CCreate:
		if first.Kind != api.Object && first.Kind != api.Null {
			return w.Fail("TypeError")
		}
		return made(api.Thing{Proto: first})
	}
	return slowly(w, f.Code, first)
}

// slowly performs the functions that look at what the first argument is like.
func slowly(w *mop.World, code int, v api.Value) api.Reply {
	frozen, isObject := code == api.CFreeze || code == api.CFrozen, v.Kind == api.Object
	switch code {
	case api.CIsArray:
		for range w.Heap.Len() {
			x, _ := w.Heap.Get(v.Num)
			if v.Kind != api.Object || x.Kind != api.Proxy {
				break
			}
			if x.Handler.Kind != api.Object {
				return w.Fail("TypeError")
			}
			v = x.Target
		}
		x, _ := w.Heap.Get(v.Num)
		return api.Reply{Value: truth(v.Kind == api.Object && x.Kind == api.Array)}
	case api.CFreeze, api.CSeal:
		if !isObject {
			return api.Reply{Value: v}
		}
		r := integrity.Set(w, v.Num, frozen)
		if r.Flow != api.Done {
			return r
		}
		if !r.OK {
			return w.Fail("TypeError")
		}
		return api.Reply{Value: v}
	case api.CFrozen, api.CSealed:
		if !isObject {
			return api.Reply{Value: yes}
		}
		r := integrity.Test(w, v.Num, frozen)
		if r.Flow != api.Done {
			return r
		}
		return api.Reply{Value: truth(r.OK)}
	case api.CKeys:
		if !isObject {
			return w.Fail("TypeError")
		}
		all := w.Do(api.MKeys, v.Num, api.Ask{})
		if all.Flow != api.Done {
			return all
		}
		return slowKeys(w, v, all.Keys)
	}
	return w.Fail("TypeError")
}

func slowMake(w *mop.World, x api.Thing) api.Reply {
	x.Extensible = true
	if o, ok := w.Heap.Make(x); ok {
		return api.Reply{Value: obj(o)}
	}
	return api.Reply{Flow: api.NoRoom}
}

// slowInvoke performs the functions that look at what they are called on.
func slowInvoke(w *mop.World, code int, this api.Value, args []api.Value) api.Reply {
	var first api.Value
	var others []api.Value
	if len(args) > 0 {
		first, others = args[0], args[1:]
	}
	if !w.Calls(this) {
		return w.Fail("TypeError")
	}
	if code == api.CCall {
		return w.Do(api.MCall, this.Num, api.Ask{Receiver: first, List: others})
	}
	proto := w.Do(api.MGetProto, this.Num, api.Ask{})
	if proto.Flow != api.Done {
		return proto
	}
	return slowMake(w, api.Thing{
		Kind: api.Bound, Proto: proto.Value, Target: this, This: first, Args: others, Calls: w.Calls(this), Makes: w.Makes(this),
	})
}

// slowKeys returns an array of those of all that CKeys of v is about.
func slowKeys(w *mop.World, v api.Value, all []api.Key) api.Reply {
	l := elements()
	for _, k := range all {
		if k.Sym != 0 {
			continue
		}
		own := w.Do(api.MGetOwn, v.Num, api.Ask{Key: k})
		if own.Flow != api.Done {
			return own
		}
		if own.Has && own.Desc.Enumerable {
			l = append(l, field(fmt.Sprint(len(l)-1), keys.Value(k), "wec"))
			l[0].Desc.Value.Num++
		}
	}
	return slowMake(w, api.Thing{Kind: api.Array, Proto: null, Props: l})
}

func truth(b bool) api.Value {
	if b {
		return yes
	}
	return no
}

// dice is a row of numbers that looks like chance, and is always the same.
type dice uint64

func (d *dice) next(n int) int {
	*d = *d*6364136223846793005 + 1442695040888963407
	return int(uint64(*d)>>33) % n
}

func (d *dice) one(in int) bool { return d.next(in) == 0 }

func pick[T any](d *dice, l []T) T { return l[d.next(len(l))] }

// The objects of a scene.
const (
	firstPlain   = 0
	firstMethod  = 8  // functions that do on the target what they are asked
	firstFn      = 21 // functions that do something else
	firstBound   = 37
	firstList    = 40
	firstDesc    = 43
	firstHandler = 46
	firstProxy   = 52
	nObjects     = 64
)

// newScene fills a world with objects by chance. The world has the bounds b.
func newScene(t *testing.T, seed int, b api.Bounds) world {
	w := newWorld(t)
	d := dice(seed)
	for range firstMethod - firstPlain {
		w.add(somePlain(&d))
	}
	for m := api.MGetProto; m <= api.MConstruct; m++ {
		w.function(api.CReflect+m, 0, undefined)
	}
	for range firstBound - firstFn {
		code := pick(&d, append(codes(), api.CConst, api.CConst, api.CConst, api.CThrow, api.CThis, api.CWritten, api.CWritten, api.CWritten, api.CRevoke))
		v := pick(&d, []api.Value{yes, yes, no, null, obj(firstPlain + d.next(8)), obj(firstList + d.next(3)), obj(firstDesc + d.next(3))})
		if code == api.CRevoke {
			v = obj(firstProxy + d.next(nObjects-firstProxy))
		}
		w.function(code, d.next(1<<20), v, field("prototype", obj(firstPlain), ""))
	}
	for range firstList - firstBound {
		f := obj(firstFn + d.next(firstBound-firstFn))
		w.bound(f, !d.one(4), w.Makes(f))
	}
	for range firstDesc - firstList {
		w.array([]api.Value{str("b"), str("a"), symbol(2), str("0")}[d.next(3):]...)
	}
	for range firstHandler - firstDesc {
		w.plain(null, field("configurable", pick(&d, []api.Value{yes, yes, no}), "w"), field(pick(&d, []string{"value", "writable", "get", "enumerable"}), pick(&d, []api.Value{yes, undefined}), ""))
	}
	for range firstProxy - firstHandler {
		w.plain(null, someTraps(&d)...)
	}
	for i := range nObjects - firstProxy {
		w.proxy(someTarget(&d, i), obj(firstHandler+d.next(firstProxy-firstHandler)))
	}
	return w.copied(b)
}

func somePlain(d *dice) api.Thing {
	x := api.Thing{Proto: null, Extensible: !d.one(3)}
	if d.one(4) {
		x.Kind, x.Props = api.Array, elements([]api.Value{yes, no}[:d.next(3)]...)
	}
	loose := pick(d, [][]string{{"wec", "ec", "w", "e", "c", ""}, {"w", "e", ""}, {"e", ""}})
	f := obj(firstFn + d.next(firstBound-firstFn))
	for _, k := range []api.Key{name("b"), {Sym: 2}, name("a"), name("0")} {
		e := field("", number(d.next(3)), pick(d, loose))
		if d.one(3) {
			e = sides("", pick(d, []api.Value{f, undefined}), undefined, pick(d, loose))
		}
		if e.Key = k; d.one(2) && (k != name("0") || x.Kind != api.Array) {
			x.Props = append(x.Props, e)
		}
	}
	return x
}

func someTraps(d *dice) []api.Entry {
	var l []api.Entry
	often := d.next(4)
	for m := api.MGetProto; m <= api.MConstruct; m++ {
		if d.next(4) >= often {
			continue
		}
		f := obj(firstMethod + m - 1)
		if d.one(3) {
			f = obj(firstFn + d.next(firstList-firstFn))
		}
		l = append(l, field(reflect.Trap(m), f, "wec"))
	}
	return l
}

// someTarget is one for the i-th proxy.
func someTarget(d *dice, i int) api.Value {
	l := []api.Value{obj(firstPlain + d.next(8)), obj(firstFn + d.next(firstList-firstFn))}
	if i > 0 {
		l = append(l, obj(firstProxy+d.next(i)))
	}
	return pick(d, l)
}

// someCall is a call of a function in a scene.
func someCall(d *dice) (f api.Thing, this api.Value, args []api.Value) {
	f = function(pick(d, codes()))
	if d.one(3) {
		f.Code = api.CRevocable + d.next(api.CKeys-api.CRevocable+1)
	}
	if f.Code == api.CRevoke {
		f.V = someValue(d)
	}
	for range d.next(5) {
		args = append(args, someValue(d))
	}
	if d.one(2) && len(args) > 1 {
		args[1] = pick(d, []api.Value{str("a"), str("b"), symbol(2), number(0), null})
	}
	if d.one(2) && len(args) > 0 {
		args[len(args)-1] = obj(firstList + d.next(firstHandler-firstList))
	}
	this = someValue(d)
	if d.one(2) {
		this = obj(firstFn + d.next(firstList-firstFn))
	}
	return f, this, args
}

// someValue may be one of the objects that a scene has in the end.
func someValue(d *dice) api.Value {
	if d.one(4) {
		return pick(d, []api.Value{undefined, null, yes, number(3), str("a"), symbol(2)})
	}
	return obj(pick(d, []int{firstPlain, firstProxy, firstProxy, firstFn}) + d.next(8))
}

// perform performs the functions of a scene; native performs those that are
// built in. CWritten does something that has nothing to do with what it is
// asked, and goes on or not.
func perform(native callerFunc) callerFunc {
	return func(w *mop.World, f api.Thing, this api.Value, args []api.Value) api.Reply {
		if f.Code != api.CWritten {
			return native(w, f, this, args)
		}
		d := dice(f.N)
		for range d.next(3) {
			g, on, l := someCall(&d)
			if r := native(w, g, on, l); r.Flow != api.Done {
				return r
			}
		}
		for range d.next(2) {
			o := d.next(nObjects)
			a := api.Ask{Key: pick(&d, []api.Key{name("a"), name("b"), name("0"), {Sym: 2}}), Receiver: obj(o), Desc: field("", yes, pick(&d, []string{"wec", "w", ""})).Desc}
			if r := w.Do(pick(&d, []int{api.MPrevent, api.MDefine, api.MDelete, api.MDelete, api.MKeys, api.MSet}), o, a); r.Flow != api.Done {
				return r
			}
		}
		return api.Reply{Value: f.V}
	}
}

// someBounds are ample, or tight in one way. Few levels are enough, since
// functions that call one another go on and on.
func someBounds(d *dice) api.Bounds {
	b := api.Bounds{Fuel: 20000, Room: 100000, Deep: 30}
	switch d.next(6) {
	case 0:
		b.Fuel = d.next(150)
	case 1:
		b.Room = nObjects + d.next(8)
	case 2:
		b.Deep = d.next(10)
	}
	return b
}

// TestScenes compares with the slow version, within bounds of all sizes.
func TestScenes(t *testing.T) {
	flows := map[string]int{}
	for seed := range 3000 {
		d := dice(seed * 7)
		b := someBounds(&d)
		w, other := newScene(t, seed, b), newScene(t, seed, b)
		slowNative := func(world *mop.World, f api.Thing, this api.Value, args []api.Value) api.Reply {
			return slow(world, &other.n.Out, f, this, args)
		}
		w.Use(perform(w.n.Call))
		other.Use(perform(slowNative))
		for range 8 {
			f, this, args := someCall(&d)
			title := fmt.Sprintf("seed %d: %s", seed, describe(f.Code, this, args))
			got, want := w.n.Call(w.World, f, this, args), slowNative(other.World, f, this, args)
			w.replies(title, got, want)
			flows[fmt.Sprint(max(f.Code, api.CReflect+api.MConstruct), " ", got.Flow)]++
		}
		w.alike(fmt.Sprint("seed ", seed), other)
	}
	for code := api.CReflect + api.MConstruct; code <= api.CKeys; code++ { // the functions of Reflect count as one
		for flow := api.Done; slices.Contains(codes(), code) && flow <= api.TooDeep; flow++ {
			if n := flows[fmt.Sprint(code, " ", flow)]; n < 5 && canEnd(code, flow) {
				t.Errorf("Code %d ends with the flow %d %d times alone", code, flow, n)
			}
		}
	}
}

// canEnd tells whether a function can end in such a way.
func canEnd(code, flow int) bool {
	quiet := []int{api.CProxy, api.CRevocable, api.CCreate, api.CIsArray, api.CRevoke, api.CPrint, api.CSymbol}
	switch flow {
	case api.NoFuel, api.TooDeep:
		return !slices.Contains(quiet, code)
	case api.Threw:
		return !slices.Contains(quiet[4:], code)
	case api.NoRoom:
		return !slices.Contains(quiet[3:], code) // that of CIsArray is too rare
	}
	return true
}

// alike checks that two worlds are.
func (w world) alike(what string, other world) {
	w.t.Helper()
	fuel, deepest := w.Left()
	otherFuel, otherDeepest := other.Left()
	if fuel != otherFuel || deepest != otherDeepest || !slices.Equal(w.n.Out, other.n.Out) {
		w.t.Fatalf("%s: Left and Out are %d, %d, %q, want %d, %d, %q", what, fuel, deepest, w.n.Out, otherFuel, otherDeepest, other.n.Out)
	}
	if a, b := w.Log(), other.Log(); !deep.DeepEqual(a, b) {
		w.t.Fatalf("%s: the log is\n%+v, want\n%+v", what, a, b)
	}
	if a, b := w.objects(), other.objects(); !deep.DeepEqual(a, b) {
		w.t.Fatalf("%s: the objects are\n%+v, want\n%+v", what, a, b)
	}
}
