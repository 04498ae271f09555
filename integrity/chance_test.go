package integrity

import (
	"fmt"
	deep "reflect"
	"testing"

	"understudy/api"
	"understudy/mop"
	"understudy/reflect"
)

// slowSet does, one after the other, what P1101 says.
func slowSet(w *mop.World, o int, frozen bool) api.Reply {
	prevented := w.Do(api.MPrevent, o, api.Ask{})
	if prevented.Flow != api.Done {
		return prevented
	}
	if !prevented.OK {
		return not
	}
	all := w.Do(api.MKeys, o, api.Ask{})
	if all.Flow != api.Done {
		return all
	}
	for _, k := range all.Keys {
		var d api.Desc
		d.HasConfigurable, d.Configurable = true, false
		if frozen {
			now := w.Do(api.MGetOwn, o, api.Ask{Key: k})
			if now.Flow != api.Done {
				return now
			}
			if !now.Has {
				continue
			}
			if now.Desc.HasValue || now.Desc.HasWritable {
				d.HasWritable, d.Writable = true, false
			}
		}
		defined := w.Do(api.MDefine, o, api.Ask{Key: k, Desc: d})
		if defined.Flow != api.Done {
			return defined
		}
		if !defined.OK {
			return w.Fail("TypeError")
		}
	}
	return ok
}

// slowTest does, one after the other, what P1102 says.
func slowTest(w *mop.World, o int, frozen bool) api.Reply {
	ext := w.Do(api.MIsExt, o, api.Ask{})
	if ext.Flow != api.Done {
		return ext
	}
	if ext.OK {
		return not
	}
	all := w.Do(api.MKeys, o, api.Ask{})
	if all.Flow != api.Done {
		return all
	}
	for _, k := range all.Keys {
		now := w.Do(api.MGetOwn, o, api.Ask{Key: k})
		if now.Flow != api.Done {
			return now
		}
		if now.Has && now.Desc.Configurable {
			return not
		}
		if isData := now.Desc.HasValue || now.Desc.HasWritable; frozen && now.Has && isData && now.Desc.Writable {
			return not
		}
	}
	return ok
}

// dice is a row of numbers that looks like chance, and is always the same.
type dice uint64

func (d *dice) next(n int) int {
	*d = *d*6364136223846793005 + 1442695040888963407
	return int(uint64(*d)>>33) % n
}

func (d *dice) one(in int) bool { return d.next(in) == 0 }

func pick[T any](d *dice, l []T) T { return l[d.next(len(l))] }

// The objects of a scene.
const (
	firstPlain   = 0
	firstMethod  = 8  // functions that do on the target what they are asked
	firstFn      = 21 // functions that do something else
	firstList    = 33
	firstDesc    = 36
	firstHandler = 39
	firstProxy   = 45
	nObjects     = 53
)

// newScene fills a world with objects by chance. The world has the bounds b.
func newScene(t *testing.T, seed int, b api.Bounds) world {
	w := newWorld(t)
	d := dice(seed)
	for range firstMethod - firstPlain {
		w.add(somePlain(&d))
	}
	for m := api.MGetProto; m <= api.MConstruct; m++ {
		w.function(api.CReflect+m, 0, undefined)
	}
	for range firstList - firstFn {
		code := pick(&d, []int{api.CConst, api.CConst, api.CThrow, api.CPrint, api.CPrint, api.CPrint})
		w.function(code, d.next(1<<20), pick(&d, []api.Value{yes, yes, no, undefined, obj(firstList + d.next(3)), obj(firstDesc + d.next(3))}))
	}
	for range firstDesc - firstList {
		w.array([]api.Value{str("b"), str("a"), symbol(2), str("0")}[d.next(3):]...)
	}
	for range firstHandler - firstDesc {
		w.plain(null, field("configurable", pick(&d, []api.Value{yes, yes, no}), "w"), field(pick(&d, []string{"value", "writable", "get"}), undefined, ""))
	}
	for range firstProxy - firstHandler {
		w.plain(null, someTraps(&d)...)
	}
	for i := range nObjects - firstProxy {
		target := obj(firstPlain + d.next(firstMethod-firstPlain))
		if i > 0 && d.one(3) {
			target = obj(firstProxy + d.next(i))
		}
		w.proxy(target, obj(firstHandler+d.next(firstProxy-firstHandler)))
	}
	bounded := world{mop.New(b), t}
	for _, x := range w.objects() {
		bounded.Heap.Make(x)
	}
	bounded.Use(callerFunc(perform))
	return bounded
}

func somePlain(d *dice) api.Thing {
	x := api.Thing{Proto: null, Extensible: !d.one(3)}
	if d.one(5) {
		x.Kind, x.Props = api.Array, elements([]api.Value{yes, no}[:d.next(3)]...)
	}
	loose := pick(d, [][]string{{"wec", "ec", "w", "e", "c", ""}, {"w", "e", ""}, {"e", ""}})
	f := obj(firstFn + d.next(firstList-firstFn))
	for _, k := range []api.Key{name("b"), {Sym: 2}, name("a"), name("0")} {
		e := field("", number(d.next(3)), pick(d, loose))
		if d.one(3) {
			e = sides("", pick(d, []api.Value{f, undefined}), undefined, pick(d, loose))
		}
		if e.Key = k; d.one(2) && (k != name("0") || x.Kind != api.Array) {
			x.Props = append(x.Props, e)
		}
	}
	return x
}

func someTraps(d *dice) []api.Entry {
	var l []api.Entry
	often := d.next(4)
	for m := api.MGetProto; m <= api.MConstruct; m++ {
		if d.next(4) >= often {
			continue
		}
		f := obj(firstMethod + m - 1)
		if d.one(3) {
			f = obj(firstFn + d.next(firstList-firstFn))
		}
		l = append(l, field(reflect.Trap(m), f, "wec"))
	}
	return l
}

// perform performs the functions of a scene. CPrint does something that has
// nothing to do with what it is asked, and sometimes revokes a proxy, and goes
// on or not.
func perform(w *mop.World, f api.Thing, _ api.Value, args []api.Value) api.Reply {
	if f.Code != api.CPrint {
		return reflect.Call(w, f.Code-api.CReflect, args)
	}
	d := dice(f.N)
	for range d.next(3) {
		o := d.next(nObjects)
		a := api.Ask{Key: pick(&d, []api.Key{name("a"), name("b"), name("0"), {Sym: 2}}), Receiver: obj(o), Desc: field("", yes, pick(&d, []string{"wec", "w", ""})).Desc}
		if r := w.Do(pick(&d, []int{api.MPrevent, api.MDefine, api.MDelete, api.MDelete, api.MKeys, api.MSet}), o, a); r.Flow != api.Done {
			return r
		}
	}
	if p := firstProxy + d.next(nObjects-firstProxy); d.one(8) {
		x, _ := w.Heap.Get(p)
		x.Target, x.Handler = null, null
		w.Heap.Set(p, x)
	}
	return api.Reply{Value: f.V}
}

// same checks that two worlds are alike.
func (w world) same(what string, other world) {
	w.t.Helper()
	fuel, deepest := w.Left()
	otherFuel, otherDeepest := other.Left()
	if fuel != otherFuel || deepest != otherDeepest {
		w.t.Fatalf("%s: Left = %d, %d, want %d, %d", what, fuel, deepest, otherFuel, otherDeepest)
	}
	if a, b := w.Log(), other.Log(); !deep.DeepEqual(a, b) {
		w.t.Fatalf("%s: the log is\n%+v, want\n%+v", what, a, b)
	}
	if a, b := w.objects(), other.objects(); !deep.DeepEqual(a, b) {
		w.t.Fatalf("%s: the objects are\n%+v, want\n%+v", what, a, b)
	}
}

// isStrict tells whether an object that is no proxy is sealed or frozen.
func isStrict(x api.Thing, frozen bool) bool {
	for _, e := range x.Props {
		if e.Desc.Configurable || frozen && e.Desc.Writable {
			return false
		}
	}
	return !x.Extensible
}

// someBounds are ample, or tight in one way.
func someBounds(d *dice) api.Bounds {
	b := plenty()
	b.Deep = 60
	switch d.next(6) {
	case 0:
		b.Fuel = d.next(200)
	case 1:
		b.Room = nObjects + d.next(6)
	case 2:
		b.Deep = d.next(12)
	}
	return b
}

func (w world) slowly(what string, v api.Value) api.Reply {
	frozen := what == "freeze" || what == "frozen"
	if what == "seal" || what == "freeze" {
		return slowSet(w.World, v.Num, frozen)
	}
	return slowTest(w.World, v.Num, frozen)
}

// TestScenes compares with the slow versions, within bounds of all sizes.
func TestScenes(t *testing.T) {
	flows := map[string]int{}
	for seed := range 3000 {
		d := dice(seed * 7)
		b := someBounds(&d)
		w, slow := newScene(t, seed, b), newScene(t, seed, b)
		for range 6 {
			v := obj(pick(&d, []int{firstPlain, firstProxy, firstProxy}) + d.next(8))
			what, target := pick(&d, calls()), w.innermost(v)
			title := fmt.Sprintf("seed %d: %s of %d", seed, what, v.Num)
			got := w.call(what, v)
			w.replies(title, got, slow.slowly(what, v))
			w.checkLevel(title, got, target, what == "frozen")
			flows[fmt.Sprint(what, " ", got.Flow, " ", got.OK)]++
		}
		w.same(fmt.Sprint("seed ", seed), slow)
	}
	for _, what := range calls() {
		for _, how := range []string{"0 true", "0 false", "1 false", "2 false", "3 false", "4 false"} {
			if n := flows[what+" "+how]; n < 50 {
				t.Errorf("%s %s occurs %d times alone", what, how, n)
			}
		}
	}
}

// checkLevel: what is said to be sealed or frozen is so behind all proxies,
// whatever handlers do. Only when it is being frozen can it stay writable,
// since a handler may say that a property is an accessor.
func (w world) checkLevel(title string, r api.Reply, target api.Value, frozen bool) {
	w.t.Helper()
	if x := w.thing(target); r.OK && !isStrict(x, frozen) {
		w.t.Fatalf("%s: it is %+v", title, x)
	}
}

// innermost is the object that v stands for, also behind proxies that are
// revoked later.
func (w world) innermost(v api.Value) api.Value {
	for x := w.thing(v); x.Kind == api.Proxy && x.Target.Kind == api.Object; x = w.thing(v) {
		v = x.Target
	}
	return v
}
