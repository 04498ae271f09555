package reflect

import (
	"testing"

	"understudy/api"
	"understudy/keys"
	"understudy/mop"
)

// stage is a world with a target and what it takes to call all functions.
type stage struct {
	world
	proto, target, fixed, other api.Value
	this                        api.Value // a function that returns what it is called on
}

// newStage: the target has a data property "data", an accessor "side" that
// returns the receiver, a property "hard" that is not configurable, and one
// with a symbol; fixed is not extensible.
func newStage(t *testing.T) stage {
	s := stage{world: newWorld(t)}
	s.this = s.function(api.CThis, 0, undefined)
	s.proto = s.plain(null, field("far", number(3), "wec"))
	side := sides("side", s.this, s.this, "ec")
	mark := field("", number(9), "wec")
	mark.Key = api.Key{Sym: 2}
	s.target = s.plain(s.proto, mark, field("data", number(7), "wec"), side, field("hard", number(8), ""), field("1", yes, "wec"))
	s.fixed = s.add(api.Thing{Proto: s.proto, Props: []api.Entry{field("data", number(7), "w")}})
	s.other = s.plain(null)
	return s
}

// performs checks that the function for m returns v, where Do of m on the
// target with the Ask a is the only step behind those before.
func (s stage) performs(m int, args []api.Value, v api.Value, a api.Ask, before ...step) {
	s.t.Helper()
	from := len(s.Log())
	s.does(describe(m, args), Call(s.World, m, args), v)
	s.steps(describe(m, args), from, append(before, step{m, args[0].Num, a})...)
}

// refuses checks that the function for m throws a TypeError behind these
// steps, without Do of m on the target.
func (s stage) refuses(m int, args []api.Value, before ...step) {
	s.t.Helper()
	from, objects := len(s.Log()), s.Heap.Len()
	fuel, _ := s.Left()
	s.fails(describe(m, args), Call(s.World, m, args), "TypeError")
	if left, _ := s.Left(); left != fuel && len(before) == 0 {
		s.t.Errorf("%s: it takes %d units of fuel", describe(m, args), fuel-left)
	}
	s.steps(describe(m, args), from, before...)
	if s.Heap.Len() != objects+1 {
		s.t.Errorf("%s: there are more objects than the error", describe(m, args))
	}
}

func TestPrototypesAndExtensions(t *testing.T) {
	s := newStage(t)
	s.performs(api.MGetProto, list(s.target), s.proto, api.Ask{})
	s.performs(api.MGetProto, list(s.other, str("ignored")), null, api.Ask{})
	s.performs(api.MIsExt, list(s.target), yes, api.Ask{})
	s.performs(api.MIsExt, list(s.fixed, yes), no, api.Ask{})

	s.performs(api.MSetProto, list(s.target, s.other), yes, api.Ask{Value: s.other})
	s.performs(api.MGetProto, list(s.target), s.other, api.Ask{})
	s.performs(api.MSetProto, list(s.target, null, s.proto), yes, api.Ask{Value: null})
	s.performs(api.MGetProto, list(s.target), null, api.Ask{})
	s.performs(api.MSetProto, list(s.target, s.target), no, api.Ask{Value: s.target})
	s.performs(api.MSetProto, list(s.fixed, null), no, api.Ask{Value: null})
	s.performs(api.MSetProto, list(s.fixed, s.proto), yes, api.Ask{Value: s.proto})

	s.performs(api.MPrevent, list(s.target, no), yes, api.Ask{})
	s.performs(api.MIsExt, list(s.target), no, api.Ask{})
	unwilling := s.proxy(s.other, s.plain(null, field("preventExtensions", s.gives(no), "")))
	s.performs(api.MPrevent, list(unwilling), no, api.Ask{})
}

func TestPrototypesThatAreNone(t *testing.T) {
	for _, v := range []api.Value{undefined, yes, no, number(0), str(""), str("null"), symbol(1), {Kind: 77}, {Kind: -1}} {
		s := newStage(t)
		s.refuses(api.MSetProto, list(s.target, v))
		s.refuses(api.MSetProto, list(s.target, v, null))
		s.refuses(api.MSetProto, list(s.fixed, v))
	}
	s := newStage(t)
	s.refuses(api.MSetProto, list(s.target))
	s.performs(api.MGetProto, list(s.target), s.proto, api.Ask{})
}

func TestOwnProperties(t *testing.T) {
	s := newStage(t)
	own := func(args []api.Value, k api.Key, want ...api.Entry) {
		t.Helper()
		what, from := describe(api.MGetOwn, args), len(s.Log())
		r := Call(s.World, api.MGetOwn, args)
		s.steps(what, from, step{api.MGetOwn, args[0].Num, api.Ask{Key: k}})
		s.is(what, r.Value, api.Thing{Proto: null, Extensible: true, Props: want})
		s.does(what, r, r.Value)
	}
	own(list(s.target, str("data")), name("data"),
		field("value", number(7), "wec"), field("writable", yes, "wec"), field("enumerable", yes, "wec"), field("configurable", yes, "wec"))
	own(list(s.target, str("hard"), str("data")), name("hard"),
		field("value", number(8), "wec"), field("writable", no, "wec"), field("enumerable", no, "wec"), field("configurable", no, "wec"))
	own(list(s.target, str("side")), name("side"),
		field("get", s.this, "wec"), field("set", s.this, "wec"), field("enumerable", yes, "wec"), field("configurable", yes, "wec"))
	for _, k := range []string{"far", "", "value"} {
		objects := s.Heap.Len()
		s.performs(api.MGetOwn, list(s.target, str(k)), undefined, api.Ask{Key: name(k)})
		if s.Heap.Len() != objects {
			t.Errorf("P1002: an object for the property %q, which does not exist", k)
		}
	}

	s.performs(api.MHas, list(s.target, str("data")), yes, api.Ask{Key: name("data")})
	s.performs(api.MHas, list(s.target, str("far"), no), yes, api.Ask{Key: name("far")})
	s.performs(api.MHas, list(s.target, str("none")), no, api.Ask{Key: name("none")})
	s.performs(api.MDelete, list(s.target, str("hard")), no, api.Ask{Key: name("hard")})
	s.performs(api.MDelete, list(s.target, str("data"), str("hard")), yes, api.Ask{Key: name("data")})
	s.performs(api.MDelete, list(s.target, str("data")), yes, api.Ask{Key: name("data")})
	s.performs(api.MHas, list(s.target, str("data")), no, api.Ask{Key: name("data")})
	s.performs(api.MHas, list(s.target, str("hard")), yes, api.Ask{Key: name("hard")})
}

func TestDefine(t *testing.T) {
	s := newStage(t)
	five := s.plain(null, field("value", number(5), ""))
	a := api.Ask{Key: name("data"), Desc: api.Desc{HasValue: true, Value: number(5)}}
	s.performs(api.MDefine, list(s.target, str("data"), five), yes, a, looks(five, "value")...)
	s.performs(api.MGet, list(s.target, str("data")), number(5), api.Ask{Key: name("data"), Receiver: s.target})
	a.Key = name("hard")
	s.performs(api.MDefine, list(s.target, str("hard"), five), no, a, looks(five, "value")...)
	a.Key = name("new")
	s.performs(api.MDefine, list(s.fixed, str("new"), five, five), no, a, looks(five, "value")...)

	whole := s.plain(null, field("get", undefined, ""), field("set", s.this, ""), field("enumerable", number(1), ""), field("configurable", str(""), ""))
	a.Desc = api.Desc{HasGet: true, HasSet: true, Set: s.this, HasEnumerable: true, Enumerable: true, HasConfigurable: true}
	s.performs(api.MDefine, list(s.target, str("new"), whole), yes, a, looks(whole, "get set enumerable configurable")...)
	empty := api.Ask{Key: name("bare")}
	s.performs(api.MDefine, list(s.target, str("bare"), s.other), yes, empty, looks(s.other, "")...)
}

func TestDefineWithWrongDescriptors(t *testing.T) {
	s := newStage(t)
	s.refuses(api.MDefine, list(s.target, str("a")))
	for _, v := range []api.Value{undefined, null, yes, number(1), str("value"), symbol(1)} {
		s.refuses(api.MDefine, list(s.target, str("a"), v))
	}
	both := s.plain(null, field("get", s.this, ""), field("value", number(1), ""))
	s.refuses(api.MDefine, list(s.target, str("a"), both), looks(both, "get value")...)
	wrong := s.plain(null, field("get", s.other, ""), field("value", number(1), ""))
	s.refuses(api.MDefine, list(s.target, str("a"), wrong), looks(wrong, "get value")[:7]...)
}

func TestGetAndSet(t *testing.T) {
	s := newStage(t)
	get := func(k string, on api.Value, want api.Value, args ...api.Value) {
		t.Helper()
		s.performs(api.MGet, append(list(s.target, str(k)), args...), want, api.Ask{Key: name(k), Receiver: on})
	}
	get("data", s.target, number(7))
	get("far", s.target, number(3))
	get("none", s.target, undefined)
	get("side", s.target, s.target)
	get("side", s.other, s.other, s.other)
	get("side", undefined, undefined, undefined)
	get("side", number(5), number(5), number(5), s.other)

	set := func(k string, v, on, want api.Value, args ...api.Value) {
		t.Helper()
		s.performs(api.MSet, append(list(s.target, str(k)), args...), want, api.Ask{Key: name(k), Value: v, Receiver: on})
	}
	set("data", number(1), s.target, yes, number(1))
	get("data", s.target, number(1))
	set("data", undefined, s.target, yes)
	get("data", s.target, undefined)
	set("hard", number(1), s.target, no, number(1))
	set("data", number(2), s.other, yes, number(2), s.other)
	get("data", s.target, undefined)
	s.performs(api.MGet, list(s.other, str("data")), number(2), api.Ask{Key: name("data"), Receiver: s.other})
	set("data", number(3), undefined, no, number(3), undefined, s.target)
	set("data", number(3), number(4), no, number(3), number(4))
	set("side", number(6), number(4), yes, number(6), number(4))
	log := s.Log()
	call := step{api.MCall, s.this.Num, api.Ask{Receiver: number(4), List: list(number(6))}}
	if got := log[len(log)-2]; show(step{got.Method, got.Thing, got.Ask}) != show(call) {
		t.Errorf("P1002: Set is called by %+v, want %+v", got, call)
	}
}

func TestOwnKeys(t *testing.T) {
	s := newStage(t)
	for _, x := range []struct{ v, array api.Value }{
		{s.target, s.array(str("1"), str("data"), str("side"), str("hard"), symbol(2))},
		{s.other, s.array()},
		{s.fixed, s.array(str("data"))},
		{s.proxy(s.fixed, s.other), s.array(str("data"))},
		{s.array(yes, no), s.array(str("0"), str("1"), str("length"))},
	} {
		from, args := len(s.Log()), list(x.v, s.target)
		what, want := describe(api.MKeys, args), s.thing(x.array)
		r := Call(s.World, api.MKeys, args)
		s.steps(what, from, step{api.MKeys, x.v.Num, api.Ask{}})
		s.is(what, r.Value, want)
		s.does(what, r, r.Value)
	}
}

// TestKeys: what is a key is the same for all methods with a key.
func TestKeys(t *testing.T) {
	for m := api.MGetOwn; m <= api.MDelete; m++ {
		for _, v := range []api.Value{undefined, null, yes, no, number(0), number(-12), number(1 << 40), str(""), str("a"), str("07"), str("\xed\xa0\xbd"), symbol(1), symbol(5)} {
			s := newStage(t)
			k, _ := keys.Of(v)
			args := list(s.other, v, s.plain(null))
			Call(s.World, m, args)
			if l := s.top(0); len(l) == 0 || l[len(l)-1].m != m || l[len(l)-1].a.Key != k {
				t.Errorf("%s: the steps are %+v, want the key %+v", describe(m, args), l, k)
			}
		}
		s := newStage(t)
		if m != api.MDefine {
			Call(s.World, m, list(s.other))
			if l := s.top(0); len(l) != 1 || l[0].a.Key != name("undefined") {
				t.Errorf("%s: the steps are %+v", describe(m, list(s.other)), l)
			}
		}
		for _, v := range []api.Value{s.target, s.other, s.this, {Kind: 7}, {Kind: -1}} {
			s.refuses(m, list(s.target, v))
			s.refuses(m, list(s.target, v, s.plain(null), s.target))
		}
	}
}

func TestApply(t *testing.T) {
	s := newStage(t)
	l := s.array(number(4), undefined, s.target)
	full := list(number(4), undefined, s.target)
	call := func(f, on, want api.Value, args ...api.Value) {
		t.Helper()
		s.performs(api.MCall, append(list(f, on), args...), want, api.Ask{Receiver: on, List: full}, reads(l, 3)...)
	}
	call(s.this, s.target, s.target, l)
	call(s.this, undefined, undefined, l, s.target)
	call(s.function(api.CArg, 2, undefined), null, s.target, l)
	call(s.function(api.CArg, 3, undefined), null, undefined, l, yes)
	call(s.bound(s.this, true, false), s.target, str("this"), l)
	call(s.proxy(s.this, s.other), s.target, s.target, l)

	like := s.plain(null, field("length", number(2), ""), field("1", yes, ""))
	s.performs(api.MCall, list(s.this, no, like), no, api.Ask{Receiver: no, List: list(undefined, yes)}, reads(like, 2)...)
	s.refuses(api.MCall, list(s.this))
	s.refuses(api.MCall, list(s.this, l))
	for _, v := range []api.Value{undefined, null, yes, number(0), str("ab"), symbol(1)} {
		s.refuses(api.MCall, list(s.this, l, v))
	}
	s.wrongLengths(api.MCall, list(s.this, l))
}

// wrongLengths calls the function for m with lists of wrong lengths behind
// args.
func (s stage) wrongLengths(m int, args []api.Value) {
	s.t.Helper()
	for _, v := range []api.Value{undefined, str("1"), number(-1), number(api.MaxList + 1)} {
		l := s.plain(null, field("length", v, ""))
		from := len(s.Log())
		s.fails(describe(m, args), Call(s.World, m, append(args, l)), "RangeError")
		s.steps(describe(m, args), from, reads(l, 0)...)
	}
}

func TestConstruct(t *testing.T) {
	s := newStage(t)
	full := list(number(4), yes)
	l := s.array(full...)
	class := s.function(api.CWritten, 0, undefined, field("prototype", s.proto, ""))
	maker := s.function(api.CProxy, 0, undefined)
	var on api.Value
	s.Use(callerFunc(func(w *mop.World, f api.Thing, this api.Value, args []api.Value) api.Reply {
		on = this
		return api.Reply{Value: s.other}
	}))
	for _, x := range []struct {
		f, made api.Value
		args    []api.Value
	}{
		{maker, maker, list(l)},
		{maker, maker, list(l, maker)},
		{maker, class, list(l, class)},
		{maker, class, list(l, class, maker)},
		{s.proxy(maker, s.other), class, list(l, class)},
	} {
		args := append(list(x.f), x.args...)
		s.performs(api.MConstruct, args, s.other, api.Ask{Receiver: x.made, List: full}, reads(l, 2)...)
		if on != x.made {
			t.Errorf("%s: the new target is %v, want %v", describe(api.MConstruct, args), on, x.made)
		}
	}
	s.performs(api.MConstruct, list(class, l), s.other, api.Ask{Receiver: class, List: full}, reads(l, 2)...)
	if got, want := s.thing(on), (api.Thing{Proto: s.proto, Extensible: true}); show(got) != show(want) {
		t.Errorf("P1002: %+v is constructed, want %+v", got, want)
	}
	s.wrongLengths(api.MConstruct, list(class))
	s.refuses(api.MConstruct, list(class))
	for _, v := range []api.Value{undefined, null, yes, number(0), str("ab"), symbol(1)} {
		s.refuses(api.MConstruct, list(class, v))
		s.refuses(api.MConstruct, list(class, v, maker))
	}
}

// TestNewTargets: the new target is looked at before the list.
func TestNewTargets(t *testing.T) {
	s := newStage(t)
	class, l := s.function(api.CWritten, 0, undefined), s.array(yes)
	for _, v := range []api.Value{
		undefined, null, yes, number(1), str("f"), symbol(1), s.other, l, s.this, s.gives(class),
		s.bound(class, true, false), s.add(api.Thing{Kind: api.Proxy, Proto: null, Target: class, Handler: s.other, Calls: true}),
	} {
		s.refuses(api.MConstruct, list(class, l, v))
		s.refuses(api.MConstruct, list(class, undefined, v))
	}
	s.Use(callerFunc(func(w *mop.World, f api.Thing, this api.Value, args []api.Value) api.Reply {
		return api.Reply{Value: s.other}
	}))
	for _, v := range []api.Value{s.bound(class, true, true), s.bound(class, false, true), s.proxy(class, s.other)} {
		a := api.Ask{Receiver: v, List: list(yes)}
		s.performs(api.MConstruct, list(class, l, v), s.other, a, reads(l, 1)...)
	}
}
