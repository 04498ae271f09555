package natives

import (
	"math"
	"slices"
	"testing"

	"understudy/api"
	"understudy/heap"
	"understudy/mop"
)

// TestBounds: where a bound is met on the way, the reply is that of the bound,
// and only the steps before are in the log.
func TestBounds(t *testing.T) {
	met := map[int]int{}
	for _, code := range codes() {
		for i := range newWorld(t).goodCalls(code) {
			play := func(b api.Bounds) (world, api.Reply, int) {
				s := newWorld(t)
				c := s.goodCalls(code)[i]
				w := s.copied(b)
				return w, w.n.Call(w.World, c.f, c.this, c.args), s.Heap.Len()
			}
			full, r, objects := play(plenty())
			if r.Flow != api.Done {
				t.Fatalf("Code %d, call %d: %+v", code, i, r)
			}
			left, deepest := full.Left()
			log := full.Log()
			cut := func(b api.Bounds, flow int) {
				t.Helper()
				met[flow]++
				w, r, _ := play(b)
				w.replies("P1801: a bound", r, api.Reply{Flow: flow})
				if got := w.Log(); len(got) > len(log) || show(got) != show(log[:len(got)]) {
					t.Errorf("P1801: Code %d, call %d: with %+v the log is\n%+v, want the beginning of\n%+v", code, i, b, got, log)
				}
			}
			for fuel := range plenty().Fuel - left {
				cut(api.Bounds{Fuel: fuel, Room: 1000, Deep: 1000}, api.NoFuel)
			}
			for deep := range deepest {
				cut(api.Bounds{Fuel: 1000, Room: 1000, Deep: deep}, api.TooDeep)
			}
			for room := objects; room < full.Heap.Len(); room++ {
				cut(api.Bounds{Fuel: 1000, Room: room, Deep: 1000}, api.NoRoom)
			}
			exact := api.Bounds{Fuel: plenty().Fuel - left, Room: full.Heap.Len(), Deep: deepest}
			if w, again, _ := play(exact); show(again) != show(r) || show(w.Log()) != show(log) {
				t.Errorf("P1801: Code %d, call %d: with %+v the reply is %+v", code, i, exact, again)
			}
		}
	}
	for _, flow := range []int{api.NoFuel, api.TooDeep, api.NoRoom} {
		if met[flow] < 50 {
			t.Errorf("the flow %d is met %d times alone", flow, met[flow])
		}
	}
}

// TestNoRoom: where there is no room for the first object that a function
// creates, or for an error, nothing else happens.
func TestNoRoom(t *testing.T) {
	for _, code := range []int{api.CProxy, api.CRevocable, api.CCreate, api.CBind, api.CKeys} {
		s := newWorld(t)
		o, f := s.plain(null, field("a", yes, "wec")), s.gives(yes)
		w := s.copied(api.Bounds{Fuel: 100, Room: s.Heap.Len(), Deep: 10})
		w.replies(describe(code, f, nil), w.call(code, f, o, o), api.Reply{Flow: api.NoRoom})
		w.replies(describe(code, yes, nil), w.call(code, yes, yes, yes), api.Reply{Flow: api.NoRoom})
		if show(w.objects()) != show(s.objects()) {
			t.Errorf("P1801: Code %d changes objects where there is no room", code)
		}
	}
	w := bounded(t, api.Bounds{Room: 1})
	p := w.revoked()
	w.replies("P1801: CIsArray", w.call(api.CIsArray, undefined, p), api.Reply{Flow: api.NoRoom})
}

// methodsOf are what a function performs on its object.
func methodsOf(code int) []int {
	switch code {
	case api.CBind:
		return []int{api.MGetProto}
	case api.CCall:
		return []int{api.MCall}
	case api.CFreeze:
		return []int{api.MPrevent, api.MKeys, api.MGetOwn, api.MDefine}
	case api.CSeal:
		return []int{api.MPrevent, api.MKeys, api.MDefine}
	case api.CFrozen, api.CSealed:
		return []int{api.MIsExt, api.MKeys, api.MGetOwn}
	case api.CKeys:
		return []int{api.MKeys, api.MGetOwn}
	}
	if m := code - api.CReflect; m <= api.MConstruct {
		return []int{m}
	}
	return nil
}

// TestAbrupt: an abrupt reply is returned as it is, also one that only a Caller
// can have, whatever method it comes from; other methods are not performed.
func TestAbrupt(t *testing.T) {
	replies := []api.Reply{
		{Flow: api.Threw, Value: str("thrown")}, {Flow: api.Threw, Value: obj(0)}, {Flow: api.NoRoom}, {Flow: api.NoFuel}, {Flow: api.TooDeep},
		{Flow: api.Return, Value: yes, OK: true, Has: true, Keys: []api.Key{name("k")}},
	}
	for _, abrupt := range replies {
		for _, code := range codes() {
			if code == api.CRevoke || code == api.CPrint {
				continue // they ask nothing, and have tests of their own
			}
			for m := api.MGetProto; m <= api.MConstruct; m++ {
				w := newWorld(t)
				class := w.function(api.CProxy, 0, undefined, field("a", yes, ""))
				thing := w.thing(class)
				thing.Extensible = code != api.CFrozen && code != api.CSealed
				w.Heap.Set(class.Num, thing)
				p := w.behind(class, mop.Trap(m), w.function(88, 0, undefined))
				w.Use(callerFunc(func(*mop.World, api.Thing, api.Value, []api.Value) api.Reply { return abrupt }))
				args := list(p, p, p)
				switch code - api.CReflect {
				case api.MDefine:
					args = list(p, str("a"), w.plain(null))
				case api.MGetOwn, api.MHas, api.MGet, api.MSet, api.MDelete:
					args[1] = str("a")
				case api.MCall:
					args = list(p, p, w.array())
				case api.MConstruct:
					args = list(p, w.array(), p)
				}
				r := w.call(code, p, args...)
				if slices.Contains(methodsOf(code), m) {
					w.replies(describe(code, p, args), r, abrupt)
				} else if show(r) == show(abrupt) && code != api.CReflect+api.MConstruct { // that one calls the Caller
					t.Errorf("%s: it performs the method %d", describe(code, p, args), m)
				}
			}
		}
	}
}

// TestEmptyWorlds: without a world or a heap there is no room for an object or
// an error; what needs none is done.
func TestEmptyWorlds(t *testing.T) {
	for _, w := range []*mop.World{nil, {}, {Heap: &heap.Heap{}}, mop.New(api.Bounds{}), mop.New(api.Bounds{Fuel: 9, Deep: 9})} {
		for _, code := range append(codes(), 0, 1, 24, 99) {
			for _, args := range [][]api.Value{nil, list(null), list(yes, yes), list(obj(0)), list(obj(0), str("a"), obj(0)), list(obj(0), obj(0), obj(0), obj(0))} {
				n := &Natives{}
				r := n.Call(w, function(code), obj(0), args)
				first := undefined
				if len(args) > 0 {
					first = args[0]
				}
				want := api.Reply{Flow: api.NoRoom}
				switch {
				case code == api.CSymbol:
					want = api.Reply{Value: r.Value}
				case code == api.CRevoke, code == api.CPrint:
					want = api.Reply{}
				case code == api.CIsArray:
					want = api.Reply{Value: no}
				case first.Kind == api.Object:
				case code == api.CFreeze, code == api.CSeal:
					want = api.Reply{Value: first}
				case code == api.CFrozen, code == api.CSealed:
					want = api.Reply{Value: yes}
				}
				if show(r) != show(want) {
					t.Errorf("%s in an empty world: %+v, want %+v", describe(code, obj(0), args), r, want)
				}
				if lines := len(n.Out); (lines == 1) != (code == api.CPrint) {
					t.Errorf("%s in an empty world: Out is %q", describe(code, obj(0), args), n.Out)
				}
			}
		}
	}
}

// TestInvalidArguments: for these nothing is specified, but the call ends.
func TestInvalidArguments(t *testing.T) {
	strange := list(obj(-1), obj(99999), obj(math.MinInt), obj(math.MaxInt), api.Value{Kind: math.MaxInt, Num: -5, Str: "\xff"},
		api.Value{Kind: math.MinInt}, symbol(0), symbol(-1), str("\xff\xed\xa0"), number(math.MinInt), api.Value{Kind: api.Bool, Num: 7})
	for _, code := range append(codes(), 0, -1, 999) {
		w := newWorld(t)
		f := function(code)
		wild := w.wild()
		for _, a := range append(strange, wild...) {
			for _, b := range append(strange, wild...) {
				f.V = b
				w.n.Call(w.World, f, a, list(b, a, a, b))
				w.n.Call(w.World, f, b, list(a))
				w.n.Call(w.World, f, a, list(a, str("a"), b, b))
			}
		}
	}
}

// wild are objects with parts that are not valid.
func (w world) wild() []api.Value {
	far := obj(1 << 40)
	return list(
		w.flagged(far, far, true, true), w.flagged(yes, far, true, true), w.flagged(far, w.plain(null), true, true), w.bound(far, true, true), w.bound(no, true, true),
		w.add(api.Thing{Kind: api.Array, Proto: far}), w.add(api.Thing{Kind: 77, Proto: number(-1)}), w.add(api.Thing{Kind: -1}),
		w.add(api.Thing{Proto: yes, Extensible: true, Props: []api.Entry{{Key: name("a")}, {Key: name("a"), Desc: api.Desc{HasValue: true, HasGet: true, Get: far}}, {Key: api.Key{Str: "x", Sym: -3}}}}),
	)
}
