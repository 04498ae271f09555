package reflect

import (
	"math"
	"testing"

	"understudy/api"
	"understudy/heap"
	"understudy/mop"
)

// TestNoSuchMethod: whatever the arguments are, and without a step.
func TestNoSuchMethod(t *testing.T) {
	for _, m := range []int{0, -1, 14, 15, 30, 1<<32 + 8, math.MinInt, math.MaxInt} {
		s := newStage(t)
		class := s.function(api.CWritten, 0, undefined)
		s.refuses(m, nil)
		s.refuses(m, list(number(1)))
		s.refuses(m, list(s.target, str("data"), s.other))
		s.refuses(m, list(class, s.array(), s.array()))
		if fuel, deepest := s.Left(); fuel != plenty().Fuel || deepest != 0 {
			t.Errorf("P1002: method %d: Left = %d, %d", m, fuel, deepest)
		}
	}
}

func TestTargetsThatAreNoObjects(t *testing.T) {
	for m := api.MGetProto; m <= api.MConstruct; m++ {
		s := newStage(t)
		s.refuses(m, nil)
		s.refuses(m, []api.Value{})
		for _, v := range []api.Value{undefined, null, yes, no, number(0), number(s.target.Num), str(""), str("data"), symbol(1), {Kind: 7}, {Kind: -1}} {
			s.refuses(m, list(v))
			s.refuses(m, list(v, null, s.array(), s.target))
			s.refuses(m, list(v, s.array(), s.function(api.CWritten, 0, undefined)))
		}
		if fuel, deepest := s.Left(); fuel != plenty().Fuel || deepest != 0 {
			t.Errorf("P1002: method %d: Left = %d, %d", m, fuel, deepest)
		}
	}
}

// TestCallsAndMakes: MCall is for targets that are Calls, and MConstruct for
// those that are Makes, independently; for the others it is refused before the
// list is looked at.
func TestCallsAndMakes(t *testing.T) {
	s := newStage(t)
	s.Use(callerFunc(func(*mop.World, api.Thing, api.Value, []api.Value) api.Reply {
		return api.Reply{Value: s.other}
	}))
	class := s.function(api.CWritten, 0, undefined)
	l := s.array()
	type row struct {
		v            api.Value
		calls, makes bool
	}
	rows := []row{
		{s.other, false, false}, {l, false, false}, {s.fixed, false, false},
		{s.add(api.Thing{Kind: api.Error, Proto: null, Calls: true, Makes: true}), false, false},
		{s.gives(s.other), true, false}, {s.function(api.CPrint, 0, undefined), true, false},
		{class, true, true},
	}
	for i := range 4 {
		calls, makes := i%2 == 1, i/2 == 1
		rows = append(rows, row{s.bound(class, calls, makes), calls, makes})
		p := api.Thing{Kind: api.Proxy, Proto: null, Target: class, Handler: s.other, Calls: calls, Makes: makes}
		rows = append(rows, row{s.add(p), calls, makes})
	}
	for _, x := range rows {
		call := list(x.v, undefined, l)
		if x.calls {
			s.performs(api.MCall, call, s.other, api.Ask{}, reads(l, 0)...)
		} else {
			s.refuses(api.MCall, call)
			s.refuses(api.MCall, list(x.v))
		}
		construct := list(x.v, l)
		if x.makes {
			s.performs(api.MConstruct, construct, s.other, api.Ask{Receiver: x.v}, reads(l, 0)...)
		} else {
			s.refuses(api.MConstruct, construct)
			s.refuses(api.MConstruct, list(x.v, l, class))
		}
		s.performs(api.MIsExt, list(x.v), truth(s.thing(x.v).Extensible || s.thing(x.v).Kind == api.Proxy), api.Ask{})
	}
}

func truth(b bool) api.Value {
	if b {
		return yes
	}
	return no
}

// TestRevoked: a revoked proxy returns nothing.
func TestRevoked(t *testing.T) {
	for m := api.MGetProto; m <= api.MConstruct; m++ {
		s := newStage(t)
		p := s.add(api.Thing{Kind: api.Proxy, Proto: null, Target: null, Handler: null, Calls: true, Makes: true})
		for _, args := range argumentsFor(s, m) {
			args[0] = p
			s.fails(describe(m, args), Call(s.World, m, args), "TypeError")
		}
	}
}

// argumentsFor are lists of arguments with which the function for m succeeds
// on the class that is their first one.
func argumentsFor(s stage, m int) [][]api.Value {
	class := s.function(api.CWritten, 0, undefined, field("prototype", s.proto, "w"), field("gone", yes, "wec"))
	d := s.plain(null, field("value", number(1), ""), field("enumerable", yes, ""))
	switch m {
	case api.MSetProto:
		return [][]api.Value{list(class, s.proto), list(class, null)}
	case api.MGetOwn, api.MHas, api.MDelete:
		return [][]api.Value{list(class, str("prototype")), list(class, str("gone")), list(class)}
	case api.MDefine:
		return [][]api.Value{list(class, str("a"), d), list(class, str("prototype"), d)}
	case api.MGet:
		return [][]api.Value{list(class, str("prototype")), list(class, str("none"), s.other)}
	case api.MSet:
		return [][]api.Value{list(class, str("prototype"), s.other), list(class, str("none"), yes, s.other)}
	case api.MCall:
		return [][]api.Value{list(class, undefined, s.array()), list(class, yes, s.array(yes, no))}
	case api.MConstruct:
		return [][]api.Value{list(class, s.array()), list(class, s.array(yes, no), s.function(api.CWritten, 0, undefined))}
	}
	return [][]api.Value{list(class)}
}

// TestBounds: where a bound is met on the way, the reply is that of the bound,
// and only the steps before are in the log.
func TestBounds(t *testing.T) {
	for m := api.MGetProto; m <= api.MConstruct; m++ {
		for i := range argumentsFor(newStage(t), m) {
			play := func(b api.Bounds) (stage, api.Reply, int) {
				s := newStage(t)
				args := argumentsFor(s, m)[i]
				objects := s.Heap.Len()
				// A world of its own bounds with the same objects.
				w := mop.New(b)
				for o := range objects {
					w.Heap.Make(s.thing(obj(o)))
				}
				w.Use(callerFunc(func(*mop.World, api.Thing, api.Value, []api.Value) api.Reply { return api.Reply{} }))
				s.World = w
				return s, Call(w, m, args), objects
			}
			full, r, objects := play(plenty())
			if r.Flow != api.Done {
				t.Fatalf("method %d, %d: %+v", m, i, r)
			}
			left, deepest := full.Left()
			log := full.Log()
			cut := func(b api.Bounds, flow int) {
				t.Helper()
				s, r, _ := play(b)
				s.replies(describe(m, nil), r, api.Reply{Flow: flow})
				if got := s.Log(); len(got) > len(log) || show(got) != show(log[:len(got)]) {
					t.Errorf("P1002: method %d, %d: with %+v the log is\n%+v, want the beginning of\n%+v", m, i, b, got, log)
				}
			}
			for fuel := range plenty().Fuel - left {
				cut(api.Bounds{Fuel: fuel, Room: 1000, Deep: 1000}, api.NoFuel)
			}
			for deep := range deepest {
				cut(api.Bounds{Fuel: 1000, Room: 1000, Deep: deep}, api.TooDeep)
			}
			for room := objects; room < full.Heap.Len(); room++ {
				cut(api.Bounds{Fuel: 1000, Room: room, Deep: 1000}, api.NoRoom)
			}
			exact := api.Bounds{Fuel: plenty().Fuel - left, Room: full.Heap.Len(), Deep: deepest}
			if s, again, _ := play(exact); show(again) != show(r) || show(s.Log()) != show(log) {
				t.Errorf("P1002: method %d, %d: with %+v the reply is %+v", m, i, exact, again)
			}
		}
	}
}

// TestThrown: what is thrown on the way is passed on.
func TestThrown(t *testing.T) {
	thrown := api.Reply{Flow: api.Threw, Value: str("thrown")}
	for m := api.MGetProto; m <= api.MConstruct; m++ {
		s := newStage(t)
		for _, args := range argumentsFor(s, m) {
			handler := s.plain(null, field(Trap(m), s.throws(str("thrown")), ""))
			args[0] = s.proxy(args[0], handler)
			s.replies(describe(m, args), Call(s.World, m, args), thrown)
		}
	}
	s := newStage(t)
	bad := func(k string) api.Entry { return sides(k, s.throws(str("thrown")), undefined, "") }
	for _, k := range []string{"enumerable", "configurable", "value", "writable", "get", "set"} {
		args := list(s.target, str("data"), s.plain(null, bad(k)))
		s.replies(describe(api.MDefine, args), Call(s.World, api.MDefine, args), thrown)
	}
	class := s.function(api.CWritten, 0, undefined)
	for _, l := range []api.Value{s.plain(null, bad("length")), s.plain(null, field("length", number(2), ""), bad("1"))} {
		for m, args := range map[int][]api.Value{api.MCall: list(class, undefined, l), api.MConstruct: list(class, l)} {
			from := len(s.Log())
			s.replies(describe(m, args), Call(s.World, m, args), thrown)
			for _, x := range s.top(from) {
				if x.m == m {
					t.Errorf("%s: it is done all the same", describe(m, args))
				}
			}
		}
	}
	// An abrupt reply is not changed, also one that only a Caller can have.
	want := api.Reply{Flow: api.Return, Value: yes, OK: true, Has: true, Keys: []api.Key{name("k")}}
	s.Use(callerFunc(func(*mop.World, api.Thing, api.Value, []api.Value) api.Reply { return want }))
	s.replies("P1002: abrupt", Call(s.World, api.MCall, list(class, undefined, s.array())), want)
	s.replies("P1002: abrupt", Call(s.World, api.MConstruct, list(class, s.array())), want)
}

// TestEmptyWorlds: without a world or a heap there is no room for an error.
func TestEmptyWorlds(t *testing.T) {
	for _, w := range []*mop.World{nil, {}, {Heap: &heap.Heap{}}, mop.New(api.Bounds{})} {
		for m := range 15 {
			for _, args := range [][]api.Value{nil, list(null), list(obj(0)), list(obj(0), str("a"), obj(0)), list(obj(0), obj(0), obj(0), obj(0))} {
				if r := Call(w, m, args); show(r) != show(api.Reply{Flow: api.NoRoom}) {
					t.Errorf("P1002: Call of %d with %+v in an empty world: %+v", m, args, r)
				}
			}
		}
	}
}

// TestInvalidArguments: for these nothing is specified, but the call ends, and
// a target that does not exist has no methods.
func TestInvalidArguments(t *testing.T) {
	strange := list(obj(-1), obj(99999), obj(math.MinInt), obj(math.MaxInt), api.Value{Kind: math.MaxInt, Num: -5, Str: "\xff"},
		api.Value{Kind: math.MinInt}, symbol(0), symbol(-1), str("\xff\xed\xa0"), number(math.MinInt), api.Value{Kind: api.Bool, Num: 7})
	for m := range 15 {
		s := newStage(t)
		class := s.function(api.CWritten, 0, undefined)
		for _, a := range strange {
			for _, b := range strange {
				args := list(a, b, s.other, class)
				if r := Call(s.World, m, args); r.Flow != api.Threw {
					t.Errorf("%s: %+v", describe(m, args), r)
				}
				Call(s.World, m, list(class, a, b))
				Call(s.World, m, list(class, a, b, a))
				Call(s.World, m, list(class, str("a"), a, b))
			}
		}
	}
}
