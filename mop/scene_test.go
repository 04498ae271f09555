package mop

import (
	"slices"
	"strconv"

	"understudy/api"
	"understudy/keys"
)

// dice is a row of numbers that looks like chance, and is always the same.
type dice uint64

func (d *dice) next(n int) int {
	*d = *d*6364136223846793005 + 1442695040888963407
	return int(uint64(*d)>>33) % n
}

func (d *dice) one(in int) bool { return d.next(in) == 0 }

func pick[T any](d *dice, l []T) T { return l[d.next(len(l))] }

// scene is a row of objects that all know each other: plain objects and
// arrays, functions of all sorts, bound functions, handlers and proxies.
type scene struct {
	things                             []api.Thing
	plains, functions, handlers, proxy []int
	descs, lists                       []int // objects to tell descriptors and keys by
}

const (
	nPlain, nDesc, nList, nFunction, nHandler, nProxy = 6, 4, 4, 26, 4, 5
)

func newScene(d *dice) *scene {
	s := &scene{}
	at := 0
	group := func(n int) (l []int) {
		for range n {
			l = append(l, at)
			at++
		}
		return l
	}
	s.plains, s.descs, s.lists = group(nPlain), group(nDesc), group(nList)
	s.functions, s.handlers, s.proxy = group(nFunction), group(nHandler), group(nProxy)
	s.things = make([]api.Thing, at)
	for i, o := range s.plains {
		s.things[o] = s.plain(d, i)
	}
	for _, o := range s.descs {
		s.things[o] = api.Thing{Proto: null, Extensible: true, Props: s.describing(d)}
	}
	for _, o := range s.lists {
		s.things[o] = s.listing(d)
	}
	for i, o := range s.functions {
		s.things[o] = s.function(d, i)
	}
	for _, o := range s.handlers {
		s.things[o] = s.handler(d)
	}
	for i, o := range s.proxy {
		s.things[o] = s.standIn(d, i)
	}
	return s
}

// plain is an ordinary object or an array; one of a lower number is its
// prototype.
func (s *scene) plain(d *dice, i int) api.Thing {
	t := api.Thing{Proto: null, Extensible: !d.one(3)}
	if i > 0 && d.one(2) {
		t.Proto = obj(d.next(i))
	} else if d.one(6) {
		t.Proto = obj(pick(d, s.proxy))
	}
	if d.one(4) {
		t.Kind = api.Array
		t.Props = []api.Entry{field("length", number(2), pick(d, []string{"w", "w", ""}))}
	}
	for _, k := range []string{"a", "b", "0", "1", "prototype"} {
		if d.one(2) {
			t.Props = append(t.Props, api.Entry{Key: name(k), Desc: s.whole(d)})
		}
	}
	if d.one(3) {
		t.Props = append(t.Props, api.Entry{Key: api.Key{Sym: 1}, Desc: s.whole(d)})
	}
	return t
}

func (s *scene) whole(d *dice) api.Desc {
	signs := pick(d, []string{"wec", "wec", "we", "w", "", "e", "c", "ec"})
	if d.one(4) {
		return sides("", pick(d, []api.Value{undefined, s.anyFunction(d)}), pick(d, []api.Value{undefined, s.anyFunction(d)}), signs).Desc
	}
	return dataDesc(s.value(d), signs)
}

func (s *scene) describing(d *dice) []api.Entry {
	var l []api.Entry
	add := func(k string, v api.Value) {
		if !d.one(4) {
			l = append(l, field(k, v, "wec"))
		}
	}
	if d.one(3) {
		add("get", pick(d, []api.Value{undefined, s.anyFunction(d)}))
		add("set", s.anyFunction(d))
	} else {
		add("value", s.value(d))
		add("writable", s.truth(d))
	}
	add("enumerable", s.truth(d))
	add("configurable", pick(d, []api.Value{yes, yes, s.truth(d)}))
	return l
}

func (s *scene) listing(d *dice) api.Thing {
	t := api.Thing{Kind: api.Array, Proto: null, Extensible: true}
	n := d.next(5)
	t.Props = append(t.Props, field("length", number(n), "w"))
	for i := range n {
		v := keys.Value(s.key(d))
		if d.one(12) {
			v = s.value(d)
		}
		t.Props = append(t.Props, field(strconv.Itoa(i), v, "wec"))
	}
	return t
}

// function: the first thirteen are the methods themselves, and the next two
// make objects.
func (s *scene) function(d *dice, i int) api.Thing {
	t := api.Thing{Kind: api.Function, Proto: null, Extensible: true, V: s.value(d)}
	if i < 13 {
		t.Code = api.CReflect + i + 1
		return t
	}
	t.Code = pick(d, []int{api.CConst, api.CConst, api.CConst, api.CThrow, api.CArg, api.CThis, api.CWritten, api.CWritten, api.CProxy, api.CPrint, api.CPrint, api.CPrint, api.CRevoke, 0})
	t.N = d.next(4)
	if i < 15 {
		t.Code = []int{api.CWritten, api.CProxy}[i-13]
		return t
	}
	switch {
	case t.Code == api.CPrint:
		t.N = d.next(1 << 20)
	case t.Code == api.CRevoke:
		t.V = obj(pick(d, s.proxy))
	case t.Code == api.CWritten && d.one(2):
		t.Props = []api.Entry{field("prototype", obj(pick(d, s.plains)), "w")}
	case t.Code == api.CConst:
		t.V = pick(d, []api.Value{undefined, null, yes, no, number(1), obj(pick(d, s.descs)), obj(pick(d, s.lists)), obj(pick(d, s.plains))})
	}
	if d.one(4) {
		return api.Thing{
			Kind: api.Bound, Proto: null, Extensible: true, Target: pick(d, []api.Value{s.maker(d), s.anyFunction(d)}), This: s.value(d),
			Args: []api.Value{s.value(d)}, Calls: !d.one(8), Makes: !d.one(4),
		}
	}
	return t
}

func (s *scene) handler(d *dice) api.Thing {
	t := api.Thing{Proto: null, Extensible: true}
	often := 1 + d.next(4)
	for m := api.MGetProto; m <= api.MConstruct; m++ {
		if d.next(5) >= often {
			continue
		}
		v := s.anyFunction(d)
		if d.one(2) {
			v = obj(s.functions[m-1])
		} else if d.one(12) {
			v = s.value(d)
		}
		t.Props = append(t.Props, field(Trap(m), v, "wec"))
	}
	return t
}

func (s *scene) standIn(d *dice, i int) api.Thing {
	t := api.Thing{Kind: api.Proxy, Proto: null, Extensible: true, Calls: true, Makes: d.one(2)}
	t.Target = obj(pick(d, s.plains))
	if i > 0 && d.one(3) {
		t.Target = obj(s.proxy[d.next(i)])
	} else if d.one(3) {
		t.Target = pick(d, []api.Value{s.maker(d), s.anyFunction(d)})
	}
	t.Handler = obj(pick(d, s.handlers))
	if d.one(15) {
		t.Handler = obj(pick(d, s.proxy))
	}
	return t
}

func (s *scene) maker(d *dice) api.Value { return obj(pick(d, s.functions[13:15])) }

func (s *scene) anyFunction(d *dice) api.Value { return obj(pick(d, s.functions)) }

func (s *scene) truth(d *dice) api.Value { return pick(d, []api.Value{yes, no}) }

func (s *scene) key(d *dice) api.Key {
	return pick(d, []api.Key{name("a"), name("a"), name("b"), name("0"), name("1"), name("3"), name("length"), name("prototype"), name("get"), {Sym: 1}})
}

func (s *scene) value(d *dice) api.Value {
	switch d.next(4) {
	case 0:
		return obj(d.next(len(s.things) + nPlain))
	case 1:
		return obj(pick(d, s.plains))
	}
	return pick(d, []api.Value{undefined, null, yes, no, number(0), number(1), number(3), str(""), str("a"), str("b"), symbol(1)})
}

// action is something to do.
type action struct {
	m, o int
	a    api.Ask
}

func (s *scene) action(d *dice) action {
	x := action{m: 1 + d.next(13), o: d.next(len(s.things))}
	switch d.next(5) {
	case 0:
		x.o = pick(d, s.plains)
	case 1, 2:
		x.o = pick(d, s.proxy)
	case 3:
		x.o = pick(d, s.functions[13:])
	}
	x.a = api.Ask{Key: s.key(d), Value: s.existing(d), Receiver: s.existing(d)}
	if !d.one(4) {
		x.a.Receiver = obj(x.o)
	}
	if d.one(2) {
		x.a.Desc = s.whole(d)
	}
	if d.one(3) {
		x.a.Desc = only(s.existing(d))
	}
	if d.one(12) {
		x.a.Desc.HasGet = true // not right if it has a Value
	}
	for range d.next(4) {
		x.a.List = append(x.a.List, s.existing(d))
	}
	return x
}

// existing is a value that is valid while the scene is played.
func (s *scene) existing(d *dice) api.Value {
	v := s.value(d)
	if v.Kind == api.Object && v.Num >= len(s.things) {
		return obj(pick(d, s.plains))
	}
	return v
}

// fill makes sure that no object refers to one that does not exist.
func (s *scene) fill(make func(t api.Thing)) {
	limit := func(v api.Value) api.Value {
		if v.Kind == api.Object {
			v.Num %= len(s.things)
		}
		return v
	}
	for _, t := range s.things {
		t.Props = slices.Clone(t.Props)
		for i := range t.Props {
			t.Props[i].Desc.Value = limit(t.Props[i].Desc.Value)
		}
		t.V, t.This, t.Args = limit(t.V), limit(t.This), slices.Clone(t.Args)
		for i := range t.Args {
			t.Args[i] = limit(t.Args[i])
		}
		make(t)
	}
}

func (s *scene) world(b api.Bounds) real {
	w := New(b)
	s.fill(func(t api.Thing) { w.Heap.Make(t) })
	w.Use(&cast{s})
	return real{w}
}

func (s *scene) model(b api.Bounds) *model {
	m := newModel(b)
	s.fill(func(t api.Thing) {
		if len(m.things) < m.room {
			m.things = append(m.things, t)
		}
	})
	m.Use(&cast{s})
	return m
}

// cast performs the functions of a scene.
type cast struct{ s *scene }

func (c *cast) Call(w *World, f api.Thing, this api.Value, args []api.Value) api.Reply {
	return c.perform(real{w}, f, this, args)
}

func (c *cast) perform(m machine, f api.Thing, this api.Value, args []api.Value) api.Reply {
	switch f.Code {
	case api.CPrint:
		return c.meddle(m, f)
	case api.CRevoke:
		t := m.get(f.V.Num)
		t.Target, t.Handler = null, null
		m.change(f.V.Num, t)
		return api.Reply{}
	case api.CWritten:
		if this.Kind == api.Object {
			r := m.Do(api.MSet, this.Num, api.Ask{Key: name("a"), Value: f.V, Receiver: this})
			return api.Reply{Flow: r.Flow, Value: r.Value}
		}
		return api.Reply{Value: f.V}
	case api.CProxy:
		v, r := m.Array(args)
		return api.Reply{Flow: r.Flow, Value: v}
	}
	if api.CReflect < f.Code && f.Code <= api.CReflect+13 {
		return honest(m, f.Code-api.CReflect, args)
	}
	return m.Fail("TypeError")
}

// meddle does something that has nothing to do with what was asked.
func (c *cast) meddle(m machine, f api.Thing) api.Reply {
	d := dice(f.N)
	for range d.next(3) {
		x := c.s.action(&d)
		if r := m.Do(x.m, x.o, x.a); r.Flow > api.Threw || r.Flow == api.Threw && d.one(3) {
			return r
		}
	}
	return api.Reply{Value: c.s.existing(&d)}
}

// honest does on the target what the trap for the method was asked.
func honest(m machine, method int, args []api.Value) api.Reply {
	if len(args) == 0 || args[0].Kind != api.Object {
		return m.Fail("TypeError")
	}
	a, r := askOfTrap(m, method, append(args, undefined, undefined, undefined)[1:4])
	if r.Flow != api.Done {
		return r
	}
	r = m.Do(method, args[0].Num, a)
	if r.Flow != api.Done {
		return r
	}
	switch method {
	case api.MGetProto, api.MGet, api.MCall, api.MConstruct:
		return api.Reply{Value: r.Value}
	case api.MGetOwn:
		if !r.Has {
			return api.Reply{}
		}
		v, told := m.From(r.Desc)
		return api.Reply{Flow: told.Flow, Value: v}
	case api.MKeys:
		var l []api.Value
		for _, k := range r.Keys {
			l = append(l, keys.Value(k))
		}
		v, told := m.Array(l)
		return api.Reply{Flow: told.Flow, Value: v}
	}
	return api.Reply{Value: boolValue(r.OK)}
}

func askOfTrap(m machine, method int, args []api.Value) (a api.Ask, r api.Reply) {
	if api.MGetOwn <= method && method <= api.MDelete {
		k, isKey := keys.Of(args[0])
		if !isKey {
			return a, m.Fail("TypeError")
		}
		a.Key = k
	}
	switch method {
	case api.MSetProto:
		a.Value = args[0]
	case api.MDefine:
		a.Desc, r = m.To(args[1])
	case api.MGet:
		a.Receiver = args[1]
	case api.MSet:
		a.Value, a.Receiver = args[1], args[2]
	case api.MCall:
		a.Receiver = args[0]
		a.List, r = m.List(args[1])
	case api.MConstruct:
		a.Receiver = args[1]
		a.List, r = m.List(args[0])
	}
	return a, r
}
