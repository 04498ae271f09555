package integrity

import (
	"math"
	"slices"
	"testing"

	"understudy/api"
	"understudy/heap"
	"understudy/mop"
	"understudy/reflect"
)

// TestNoSuchObject: that is a TypeError, without a step.
func TestNoSuchObject(t *testing.T) {
	for _, what := range calls() {
		for _, o := range []int{-1, 1, 2, 99999, 1 << 32, math.MinInt, math.MaxInt} {
			w := newWorld(t)
			v := w.plain(null, field("a", yes, "wec"))
			before := show(w.thing(v))
			w.fails(what, w.call(what, obj(o)), "TypeError")
			w.steps(what, 0)
			if fuel, deepest := w.Left(); fuel != plenty().Fuel || deepest != 0 {
				t.Errorf("P1103: %s of %d: Left = %d, %d", what, o, fuel, deepest)
			}
			if got := show(w.thing(v)); got != before {
				t.Errorf("P1103: %s of %d changes another object to %s", what, o, got)
			}
		}
	}
}

// TestEmptyWorlds: without a world or a heap there is no room for an error.
func TestEmptyWorlds(t *testing.T) {
	for _, w := range []*mop.World{nil, {}, {Heap: &heap.Heap{}}, mop.New(api.Bounds{}), mop.New(api.Bounds{Fuel: 9, Deep: 9})} {
		for _, o := range []int{0, 1, -1, math.MaxInt, math.MinInt} {
			for _, what := range calls() {
				if r := (world{w, t}).call(what, obj(o)); show(r) != show(api.Reply{Flow: api.NoRoom}) {
					t.Errorf("P1103: %s of %d in an empty world: %+v", what, o, r)
				}
			}
		}
	}
}

// target is an object with all sorts of properties, behind a proxy whose traps
// do on the target what they are asked.
func (w world) target(strict bool) api.Value {
	f := w.function(api.CThis, 0, undefined)
	props := []api.Entry{field("a", yes, "wec"), sides("b", f, f, "ec"), field("1", no, "w")}
	if strict {
		props = []api.Entry{field("a", yes, "e"), sides("b", f, f, "e"), field("1", no, "")}
	}
	v := w.add(api.Thing{Proto: null, Extensible: !strict, Props: props})
	return w.proxy(v, w.honest())
}

func (w world) honest() api.Value {
	var l []api.Entry
	for m := api.MGetProto; m <= api.MConstruct; m++ {
		l = append(l, field(reflect.Trap(m), w.function(api.CReflect+m, 0, undefined), "w"))
	}
	return w.plain(null, l...)
}

// reflecting is a Caller for honest handlers.
func reflecting(w *mop.World, f api.Thing, _ api.Value, args []api.Value) api.Reply {
	return reflect.Call(w, f.Code-api.CReflect, args)
}

// TestBounds: where a bound is met on the way, the reply is that of the bound,
// and only the steps before are in the log.
func TestBounds(t *testing.T) {
	for _, what := range calls() {
		play := func(b api.Bounds) (world, api.Reply, int) {
			s := newWorld(t)
			v := s.target(what == "sealed" || what == "frozen")
			w := world{mop.New(b), t} // of other bounds, with the same objects
			for _, x := range s.objects() {
				w.Heap.Make(x)
			}
			w.Use(callerFunc(reflecting))
			return w, w.call(what, v), s.Heap.Len()
		}
		full, r, objects := play(plenty())
		full.replies(what, r, ok)
		left, deepest := full.Left()
		log := full.Log()
		cut := func(b api.Bounds, flow int) {
			t.Helper()
			w, r, _ := play(b)
			w.replies(what, r, api.Reply{Flow: flow})
			if got := w.Log(); len(got) > len(log) || show(got) != show(log[:len(got)]) {
				t.Errorf("P1103: %s with %+v: the log is\n%+v, want the beginning of\n%+v", what, b, got, log)
			}
		}
		for fuel := range plenty().Fuel - left {
			cut(api.Bounds{Fuel: fuel, Room: 1000, Deep: 1000}, api.NoFuel)
		}
		for deep := range deepest {
			cut(api.Bounds{Fuel: 1000, Room: 1000, Deep: deep}, api.TooDeep)
		}
		for room := objects; room < full.Heap.Len(); room++ {
			cut(api.Bounds{Fuel: 1000, Room: room, Deep: 1000}, api.NoRoom)
		}
		exact := api.Bounds{Fuel: plenty().Fuel - left, Room: full.Heap.Len(), Deep: deepest}
		if w, again, _ := play(exact); show(again) != show(r) || show(w.Log()) != show(log) {
			t.Errorf("P1103: %s with %+v: %+v", what, exact, again)
		}
	}
}

// TestNoRoomForTheError: what would throw runs out of room.
func TestNoRoomForTheError(t *testing.T) {
	for _, what := range []string{"seal", "freeze"} {
		s := newWorld(t)
		p := s.proxy(s.plain(null, field("a", yes, "wec")), s.plain(null, field("defineProperty", s.gives(no), "")))
		all := s.objects()
		// The trap is given an object for the descriptor.
		w := world{mop.New(api.Bounds{Fuel: 100, Room: len(all) + 1, Deep: 10}), t}
		for _, x := range all {
			w.Heap.Make(x)
		}
		w.replies(what, w.call(what, p), api.Reply{Flow: api.NoRoom})
		if l := w.top(0); l[len(l)-1].m != api.MDefine {
			t.Errorf("P1101: %s ends behind %+v", what, l)
		}
	}
}

// methods are those that a call performs on a proxy, in this order, up to the
// first property.
func methods(what string) []int {
	switch what {
	case "seal":
		return []int{api.MPrevent, api.MKeys, api.MDefine}
	case "freeze":
		return []int{api.MPrevent, api.MKeys, api.MGetOwn, api.MDefine}
	}
	return []int{api.MIsExt, api.MKeys, api.MGetOwn}
}

// TestThrown: what is thrown on the way is passed on at once.
func TestThrown(t *testing.T) {
	thrown := api.Reply{Flow: api.Threw, Value: str("thrown")}
	for _, what := range calls() {
		for m := api.MGetProto; m <= api.MConstruct; m++ {
			w := newWorld(t)
			target := w.add(api.Thing{Proto: null, Props: []api.Entry{field("a", yes, ""), field("b", yes, "")}})
			p := w.proxy(target, w.plain(null, field(reflect.Trap(m), w.throws(str("thrown")), "")))
			r := w.call(what, p)
			at := slices.Index(methods(what), m)
			if at < 0 {
				w.replies(what, r, ok)
				continue
			}
			w.replies(what, r, thrown)
			l := w.top(0)
			for i, x := range l[:len(l)-1] { // the last one looks the trap up
				if x.m != methods(what)[i] || x.o != p.Num {
					t.Errorf("P1103: %s whose method %d throws: %+v", what, m, l)
				}
			}
			if len(l) != at+1 {
				t.Errorf("P1103: %s whose method %d throws has the steps %+v", what, m, l)
			}
		}
	}
}

// TestAbrupt: an abrupt reply is not changed, also one that only a Caller can
// have.
func TestAbrupt(t *testing.T) {
	abrupt := api.Reply{Flow: api.Return, Value: yes, OK: true, Has: true, Keys: []api.Key{name("k")}}
	for _, what := range calls() {
		for m := api.MGetProto; m <= api.MConstruct; m++ {
			w := newWorld(t)
			target := w.add(api.Thing{Proto: null, Props: []api.Entry{field("a", yes, ""), field("b", yes, "")}})
			p := w.proxy(target, w.plain(null, field(reflect.Trap(m), w.function(api.CPrint, 0, undefined), "")))
			w.Use(callerFunc(func(*mop.World, api.Thing, api.Value, []api.Value) api.Reply { return abrupt }))
			want := ok
			if slices.Contains(methods(what), m) {
				want = abrupt
			}
			w.replies(what, w.call(what, p), want)
		}
	}
}

// TestWrongTraps: a handler that contradicts its target throws a TypeError.
func TestWrongTraps(t *testing.T) {
	for _, what := range calls() {
		set := what == "seal" || what == "freeze"
		for _, x := range []struct {
			trap  string
			told  func(w world) api.Value
			fails bool
		}{
			{"preventExtensions", func(w world) api.Value { return yes }, false},
			{"isExtensible", func(w world) api.Value { return yes }, !set},
			{"ownKeys", func(w world) api.Value { return w.array() }, true},
			{"ownKeys", func(w world) api.Value { return w.array(str("a"), str("b"), str("b")) }, true},
			{"ownKeys", func(w world) api.Value { return w.array(str("a"), str("b"), str("c")) }, true},
			{"ownKeys", func(w world) api.Value { return w.array(str("b"), number(1)) }, true},
			{"ownKeys", func(w world) api.Value { return undefined }, true},
			{"getOwnPropertyDescriptor", func(w world) api.Value { return undefined }, what != "seal"},
			{"getOwnPropertyDescriptor", func(w world) api.Value { return w.plain(null) }, what != "seal"},
			{"getOwnPropertyDescriptor", func(w world) api.Value { return yes }, what != "seal"},
			{"defineProperty", func(w world) api.Value { return no }, set},
			{"defineProperty", func(w world) api.Value { return yes }, what == "freeze"},
			{"defineProperty", func(w world) api.Value { return w.plain(null) }, what == "freeze"},
			{"getPrototypeOf", func(w world) api.Value { return undefined }, false},
			{"set", func(w world) api.Value { return no }, false},
		} {
			w := newWorld(t)
			target := w.add(api.Thing{Proto: null, Props: []api.Entry{field("a", yes, ""), field("b", yes, "w")}})
			p := w.proxy(target, w.plain(null, field(x.trap, w.gives(x.told(w)), "")))
			r := w.call(what, p)
			if x.fails {
				w.fails(what+" "+x.trap, r, "TypeError")
			} else {
				w.replies(what+" "+x.trap, r, api.Reply{OK: what != "frozen"})
			}
		}
	}
}

// TestRevoked: a revoked proxy returns nothing.
func TestRevoked(t *testing.T) {
	for _, what := range calls() {
		w := newWorld(t)
		revoked := w.add(api.Thing{Kind: api.Proxy, Proto: null, Target: null, Handler: null})
		w.fails(what, w.call(what, revoked), "TypeError")
		w.fails(what, w.call(what, w.proxy(revoked, w.plain(null))), "TypeError")
		w.fails(what, w.call(what, w.proxy(w.plain(null), revoked)), "TypeError")
	}
}

// TestRevokedOnTheWay: the steps before are done.
func TestRevokedOnTheWay(t *testing.T) {
	for _, what := range calls() {
		w := newWorld(t)
		target := w.add(api.Thing{Proto: null, Props: []api.Entry{field("a", yes, ""), field("b", yes, "")}})
		var p api.Value
		revoke := func(k api.Value) (api.Value, bool) {
			x := w.thing(p)
			x.Target, x.Handler = null, null
			w.Heap.Set(p.Num, x)
			return undefined, false
		}
		p = w.trapped(target, map[int]trap{api.MGetOwn: revoke, api.MDefine: revoke})
		steps := map[string][]step{
			"seal":   {prevent(p), keysOf(p), fix(p, name("a"))},
			"freeze": {prevent(p), keysOf(p), own(p, name("a"))},
			"sealed": {isExt(p), keysOf(p), own(p, name("a"))},
			"frozen": {isExt(p), keysOf(p), own(p, name("a"))},
		}[what]
		w.fails(what, w.call(what, p), "TypeError")
		w.steps(what, 0, steps...)
	}
}
