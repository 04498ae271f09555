package mop

import (
	"slices"
	"strconv"

	"understudy/api"
	"understudy/arrays"
	"understudy/desc"
	"understudy/keys"
	"understudy/rules"
	"understudy/values"
)

// model performs the internal methods as the chapter puts them, sentence by
// sentence: on plain lists that are searched from the beginning, and with a
// panic for what is abrupt.
type model struct {
	room, fuel, deep, depth, deepest int
	things                           []api.Thing
	log                              []api.Seen
	caller                           func(m machine, f api.Thing, this api.Value, args []api.Value) api.Reply
}

// machine is what a World and a model have in common.
type machine interface {
	Do(m, o int, a api.Ask) api.Reply
	Fail(name string) api.Reply
	From(d api.Desc) (api.Value, api.Reply)
	To(v api.Value) (api.Desc, api.Reply)
	List(v api.Value) ([]api.Value, api.Reply)
	Array(l []api.Value) (api.Value, api.Reply)
	Left() (int, int)
	Log() []api.Seen
	Use(c Caller)
	get(o int) api.Thing
	change(o int, t api.Thing)
	count() int
}

// real is a World as a machine.
type real struct{ *World }

func (w real) get(o int) api.Thing { t, _ := w.Heap.Get(o); return t }

func (w real) change(o int, t api.Thing) { w.Heap.Set(o, t) }

func (w real) count() int { return w.Heap.Len() }

func newModel(b api.Bounds) *model {
	return &model{room: max(b.Room, 0), fuel: max(b.Fuel, 0), deep: max(0, min(b.Deep, 1000))}
}

func (m *model) get(o int) api.Thing {
	t := m.things[o]
	t.Props, t.Args = slices.Clone(t.Props), slices.Clone(t.Args)
	return t
}

func (m *model) change(o int, t api.Thing) { m.things[o] = t }

func (m *model) count() int { return len(m.things) }

func (m *model) Left() (int, int) { return m.fuel, m.deepest }

func (m *model) Log() []api.Seen { return m.log }

func (m *model) Use(c Caller) {
	m.caller = c.(*cast).perform
}

// stop is what a panic carries up.
type stop struct{ reply api.Reply }

func (m *model) throw(name string) { panic(stop{m.Fail(name)}) }

// caught runs f and returns the abrupt reply that ended it, if any.
func (m *model) caught(f func()) (r api.Reply) {
	depth := m.depth
	defer func() {
		if x := recover(); x != nil {
			m.depth, r = depth, x.(stop).reply
		}
	}()
	f()
	return r
}

func (m *model) Do(method, o int, a api.Ask) (r api.Reply) {
	stopped := m.caught(func() { r = m.do(method, obj(o), a) })
	if stopped.Flow != api.Done {
		return stopped
	}
	return r
}

func (m *model) Fail(name string) (r api.Reply) {
	e := api.Thing{Kind: api.Error, Proto: null, Extensible: true, Props: []api.Entry{field("name", str(name), "wc")}}
	stopped := m.caught(func() { r = api.Reply{Flow: api.Threw, Value: m.create(e)} })
	if stopped.Flow != api.Done {
		return stopped
	}
	return r
}

func (m *model) create(t api.Thing) api.Value {
	if len(m.things) >= m.room {
		panic(stop{api.Reply{Flow: api.NoRoom}})
	}
	m.things = append(m.things, t)
	return obj(len(m.things) - 1)
}

func (m *model) do(method int, v api.Value, a api.Ask) api.Reply {
	if method < 1 || method > 13 || v.Kind != api.Object || v.Num < 0 || v.Num >= len(m.things) {
		m.throw("TypeError")
	}
	if m.fuel == 0 {
		panic(stop{api.Reply{Flow: api.NoFuel}})
	}
	m.fuel--
	if m.depth == m.deep {
		panic(stop{api.Reply{Flow: api.TooDeep}})
	}
	m.depth++
	m.deepest = max(m.deepest, m.depth)
	from := len(m.log)
	t := m.things[v.Num]
	var r api.Reply
	switch {
	case t.Kind == api.Proxy:
		r = m.proxy(method, t, a)
	case t.Kind == api.Array && method == api.MDefine:
		r = m.defineInArray(v.Num, a)
	default:
		r = m.ordinary(method, v.Num, t, a)
	}
	m.depth--
	m.log = append(m.log, api.Seen{Method: method, Thing: v.Num, From: from, Ask: a, Reply: r})
	return r
}

func (m *model) own(o int, k api.Key) (api.Desc, bool) {
	for _, e := range m.things[o].Props {
		if e.Key == k {
			return e.Desc, true
		}
	}
	return api.Desc{}, false
}

func (m *model) put(o int, k api.Key, d api.Desc) {
	l := slices.Clone(m.things[o].Props)
	for i := range l {
		if l[i].Key == k {
			l[i].Desc = d
			m.things[o].Props = l
			return
		}
	}
	m.things[o].Props = append(l, api.Entry{Key: k, Desc: d})
}

func (m *model) ordinary(method, o int, t api.Thing, a api.Ask) api.Reply {
	self := obj(o)
	switch method {
	case api.MGetProto:
		return api.Reply{Value: t.Proto}
	case api.MIsExt:
		return api.Reply{OK: t.Extensible}
	case api.MPrevent:
		m.things[o].Extensible = false
		return ok
	case api.MGetOwn:
		d, has := m.own(o, a.Key)
		return api.Reply{Has: has, Desc: d}
	case api.MKeys:
		var l []api.Key
		for _, e := range t.Props {
			l = append(l, e.Key)
		}
		return api.Reply{Keys: keys.Order(l)}
	case api.MSetProto:
		return m.setProto(o, t, a.Value)
	case api.MDefine:
		return m.define(o, a)
	case api.MDelete:
		own := m.do(api.MGetOwn, self, api.Ask{Key: a.Key})
		if own.Has && own.Desc.Configurable {
			m.things[o].Props = slices.DeleteFunc(slices.Clone(m.things[o].Props), func(e api.Entry) bool { return e.Key == a.Key })
		}
		return api.Reply{OK: !own.Has || own.Desc.Configurable}
	case api.MCall, api.MConstruct:
		return m.invoke(method, o, t, a)
	}
	return m.access(method, self, a)
}

func (m *model) setProto(o int, t api.Thing, to api.Value) api.Reply {
	if to.Kind != api.Null && to.Kind != api.Object {
		m.throw("TypeError")
	}
	if to == t.Proto {
		return ok
	}
	if !t.Extensible {
		return not
	}
	at := to
	for i := 0; i <= len(m.things) && at.Kind == api.Object; i++ {
		if at.Num == o {
			return not
		}
		if m.things[at.Num].Kind == api.Proxy {
			break
		}
		at = m.things[at.Num].Proto
	}
	m.things[o].Proto = to
	return ok
}

func (m *model) define(o int, a api.Ask) api.Reply {
	if !desc.Right(a.Desc) {
		m.throw("TypeError")
	}
	now, has := m.own(o, a.Key)
	d, applied := desc.Apply(m.things[o].Extensible, a.Desc, has, now)
	if applied {
		m.put(o, a.Key, d)
	}
	return api.Reply{OK: applied}
}

// access is MHas, MGet and MSet.
func (m *model) access(method int, self api.Value, a api.Ask) api.Reply {
	own := m.do(api.MGetOwn, self, api.Ask{Key: a.Key})
	d := own.Desc
	if !own.Has {
		if proto := m.do(api.MGetProto, self, api.Ask{}).Value; proto.Kind == api.Object {
			return m.do(method, proto, wanted(method, a))
		}
		d = dataDesc(undefined, "wec")
	}
	switch {
	case method == api.MHas:
		return api.Reply{OK: own.Has}
	case method == api.MGet && !d.HasGet:
		return api.Reply{Value: d.Value}
	case method == api.MGet && d.Get == undefined, method == api.MSet && d.HasSet && d.Set == undefined:
		return not
	case method == api.MGet:
		return api.Reply{Value: m.do(api.MCall, d.Get, api.Ask{Receiver: a.Receiver}).Value}
	case d.HasSet:
		m.do(api.MCall, d.Set, api.Ask{Receiver: a.Receiver, List: []api.Value{a.Value}})
		return ok
	case !d.Writable || a.Receiver.Kind != api.Object:
		return not
	}
	there := m.do(api.MGetOwn, a.Receiver, api.Ask{Key: a.Key})
	if there.Has && (there.Desc.HasGet || !there.Desc.Writable) {
		return not
	}
	d = dataDesc(a.Value, "wec")
	if there.Has {
		d = only(a.Value)
	}
	return api.Reply{OK: m.do(api.MDefine, a.Receiver, api.Ask{Key: a.Key, Desc: d}).OK}
}

func (m *model) abilities(v api.Value) (calls, makes bool) {
	if v.Kind != api.Object || v.Num >= len(m.things) {
		return false, false
	}
	switch t := m.things[v.Num]; t.Kind {
	case api.Function:
		return true, t.Code == api.CWritten || t.Code == api.CProxy
	case api.Bound, api.Proxy:
		return t.Calls, t.Makes
	}
	return false, false
}

func (m *model) mayInvoke(method int, v api.Value) {
	calls, makes := m.abilities(v)
	if method == api.MCall && !calls || method == api.MConstruct && !makes {
		m.throw("TypeError")
	}
}

func (m *model) invoke(method, o int, t api.Thing, a api.Ask) api.Reply {
	m.mayInvoke(method, obj(o))
	if t.Kind == api.Bound {
		receiver := t.This
		if method == api.MConstruct {
			receiver = a.Receiver
			if receiver == obj(o) {
				receiver = t.Target
			}
		}
		return m.do(method, t.Target, api.Ask{Receiver: receiver, List: append(slices.Clone(t.Args), a.List...)})
	}
	if method == api.MConstruct && t.Code == api.CWritten {
		if a.Receiver.Kind != api.Object {
			m.throw("TypeError")
		}
		proto := m.do(api.MGet, a.Receiver, api.Ask{Key: name("prototype"), Receiver: a.Receiver}).Value
		if proto.Kind != api.Object {
			proto = null
		}
		made := m.create(api.Thing{Proto: proto, Extensible: true})
		if r := m.hand(o, made, a.List); r.Value.Kind == api.Object {
			return r
		}
		return api.Reply{Value: made}
	}
	if method == api.MCall {
		switch t.Code {
		case api.CConst:
			return api.Reply{Value: t.V}
		case api.CThrow:
			panic(stop{api.Reply{Flow: api.Threw, Value: t.V}})
		case api.CThis:
			return api.Reply{Value: a.Receiver}
		case api.CProxy:
			m.throw("TypeError")
		case api.CArg:
			if t.N < 0 || t.N >= len(a.List) {
				return api.Reply{}
			}
			return api.Reply{Value: a.List[t.N]}
		}
	}
	return m.hand(o, a.Receiver, a.List)
}

func (m *model) hand(o int, this api.Value, args []api.Value) api.Reply {
	if m.caller == nil {
		m.throw("TypeError")
	}
	r := m.caller(m, m.get(o), this, slices.Clone(args))
	if r.Flow != api.Done {
		panic(stop{r})
	}
	return api.Reply{Value: r.Value}
}

func (m *model) defineInArray(o int, a api.Ask) api.Reply {
	m.must(desc.Right(a.Desc))
	length, _ := m.own(o, name("length"))
	if a.Key == name("length") && a.Desc.HasValue {
		to, fits := arrays.Length(a.Desc.Value)
		if !fits {
			m.throw("RangeError")
		}
		if to < length.Value.Num {
			if _, applied := desc.Apply(m.things[o].Extensible, a.Desc, true, length); !applied || !length.Writable {
				return not
			}
			rest, n := arrays.Cut(m.things[o].Props, to)
			m.things[o].Props = rest
			length.Value = number(n)
			if a.Desc.HasWritable && !a.Desc.Writable {
				length.Writable = false
			}
			m.put(o, name("length"), length)
			return api.Reply{OK: n == to}
		}
	}
	i, isIndex := keys.Index(a.Key)
	if isIndex && i >= length.Value.Num && !length.Writable {
		return not
	}
	r := m.define(o, a)
	if isIndex && i >= length.Value.Num && r.OK {
		length.Value = number(i + 1)
		m.put(o, name("length"), length)
	}
	return r
}

func (m *model) getOf(v api.Value, k string) api.Value {
	return m.do(api.MGet, v, api.Ask{Key: name(k), Receiver: v}).Value
}

func (m *model) proxy(method int, t api.Thing, a api.Ask) api.Reply {
	if method == api.MCall && !t.Calls || method == api.MConstruct && !t.Makes || t.Handler.Kind != api.Object {
		m.throw("TypeError")
	}
	trap := m.getOf(t.Handler, Trap(method))
	if trap.Kind == api.Undefined || trap.Kind == api.Null {
		return m.do(method, t.Target, a)
	}
	m.mayInvoke(api.MCall, trap)
	key, list := keys.Value(a.Key), []api.Value{t.Target}
	switch method {
	case api.MSetProto:
		list = append(list, a.Value)
	case api.MGetOwn, api.MHas, api.MDelete:
		list = append(list, key)
	case api.MDefine:
		list = append(list, key, m.from(a.Desc))
	case api.MGet:
		list = append(list, key, a.Receiver)
	case api.MSet:
		list = append(list, key, a.Value, a.Receiver)
	case api.MCall:
		list = append(list, a.Receiver, m.arrayOf(a.List))
	case api.MConstruct:
		list = append(list, m.arrayOf(a.List), a.Receiver)
	}
	result := m.do(api.MCall, trap, api.Ask{Receiver: t.Handler, List: list}).Value
	return m.afterTrap(method, t.Target, a, result)
}

func (m *model) must(allowed bool) {
	if !allowed {
		m.throw("TypeError")
	}
}

func (m *model) afterTrap(method int, target api.Value, a api.Ask, result api.Value) api.Reply {
	ext := func() bool { return m.do(api.MIsExt, target, api.Ask{}).OK }
	proto := func() api.Value { return m.do(api.MGetProto, target, api.Ask{}).Value }
	own := func(k api.Key) (bool, api.Desc) {
		r := m.do(api.MGetOwn, target, api.Ask{Key: k})
		return r.Has, r.Desc
	}
	truth := values.Truth(result)
	switch method {
	case api.MSetProto, api.MPrevent, api.MDefine, api.MSet, api.MDelete:
		if !truth {
			return not
		}
	}
	switch method {
	case api.MGetProto:
		m.must(result.Kind == api.Null || result.Kind == api.Object)
		if !ext() {
			m.must(rules.GetProto(false, proto(), result))
		}
		return api.Reply{Value: result}
	case api.MSetProto:
		if !ext() {
			m.must(rules.SetProto(false, proto(), a.Value))
		}
	case api.MIsExt:
		is := ext()
		m.must(is == truth)
		return api.Reply{OK: is}
	case api.MPrevent:
		m.must(!ext())
	case api.MGetOwn:
		return m.afterGetOwn(target, a, result)
	case api.MDefine:
		has, d := own(a.Key)
		m.must(rules.Define(ext(), has, d, a.Desc))
	case api.MHas, api.MDelete:
		if method == api.MHas && truth {
			return ok
		}
		reply := api.Reply{OK: method == api.MDelete}
		has, d := own(a.Key)
		if !has {
			return reply
		}
		m.must(d.Configurable)
		m.must(rules.Has(ext(), has, d))
		return reply
	case api.MGet:
		has, d := own(a.Key)
		m.must(rules.Get(has, d, result))
		return api.Reply{Value: result}
	case api.MSet:
		has, d := own(a.Key)
		m.must(rules.Set(has, d, a.Value))
	case api.MKeys:
		return m.afterKeys(target, result)
	case api.MCall:
		return api.Reply{Value: result}
	case api.MConstruct:
		m.must(result.Kind == api.Object)
		return api.Reply{Value: result}
	}
	return ok
}

func (m *model) afterGetOwn(target api.Value, a api.Ask, result api.Value) api.Reply {
	m.must(result.Kind == api.Object || result.Kind == api.Undefined)
	own := m.do(api.MGetOwn, target, api.Ask{Key: a.Key})
	if result.Kind == api.Undefined {
		if own.Has {
			m.must(own.Desc.Configurable)
			m.must(rules.GetOwn(m.do(api.MIsExt, target, api.Ask{}).OK, true, own.Desc, false, api.Desc{}))
		}
		return api.Reply{}
	}
	ext := m.do(api.MIsExt, target, api.Ask{}).OK
	d := m.to(result)
	m.must(rules.GetOwn(ext, own.Has, own.Desc, true, d))
	return api.Reply{Has: true, Desc: desc.Complete(d)}
}

func (m *model) afterKeys(target, result api.Value) api.Reply {
	var told []api.Key
	for _, v := range m.list(result) {
		k, isKey := keys.Of(v)
		told = append(told, k)
		if !isKey || v.Kind != api.String && v.Kind != api.Symbol {
			told = append(told, k)
		}
	}
	for i, k := range told {
		m.must(!slices.Contains(told[:i], k))
	}
	ext := m.do(api.MIsExt, target, api.Ask{}).OK
	var props []api.Entry
	for _, k := range m.do(api.MKeys, target, api.Ask{}).Keys {
		if own := m.do(api.MGetOwn, target, api.Ask{Key: k}); own.Has {
			props = append(props, api.Entry{Key: k, Desc: own.Desc})
		}
	}
	m.must(rules.Keys(ext, props, told))
	return api.Reply{Keys: told}
}

func (m *model) from(d api.Desc) api.Value {
	t := api.Thing{Proto: null, Extensible: true}
	for _, f := range []struct {
		has  bool
		name string
		v    api.Value
	}{
		{d.HasValue, "value", d.Value}, {d.HasWritable, "writable", boolValue(d.Writable)}, {d.HasGet, "get", d.Get}, {d.HasSet, "set", d.Set},
		{d.HasEnumerable, "enumerable", boolValue(d.Enumerable)}, {d.HasConfigurable, "configurable", boolValue(d.Configurable)},
	} {
		if f.has {
			t.Props = append(t.Props, field(f.name, f.v, "wec"))
		}
	}
	return m.create(t)
}

func (m *model) to(v api.Value) api.Desc {
	var d api.Desc
	m.must(v.Kind == api.Object)
	flag := func(k string, has, on *bool) {
		if m.do(api.MHas, v, api.Ask{Key: name(k)}).OK {
			*has, *on = true, values.Truth(m.getOf(v, k))
		}
	}
	value := func(k string, has *bool, to *api.Value) {
		if m.do(api.MHas, v, api.Ask{Key: name(k)}).OK {
			*has, *to = true, m.getOf(v, k)
			calls, _ := m.abilities(*to)
			m.must(k == "value" || calls || *to == undefined)
		}
	}
	flag("enumerable", &d.HasEnumerable, &d.Enumerable)
	flag("configurable", &d.HasConfigurable, &d.Configurable)
	value("value", &d.HasValue, &d.Value)
	flag("writable", &d.HasWritable, &d.Writable)
	value("get", &d.HasGet, &d.Get)
	value("set", &d.HasSet, &d.Set)
	m.must(desc.Right(d))
	return d
}

func (m *model) list(v api.Value) []api.Value {
	m.must(v.Kind == api.Object)
	n := m.getOf(v, "length")
	if n.Kind != api.Number || n.Num < 0 || n.Num > api.MaxList {
		m.throw("RangeError")
	}
	var l []api.Value
	for i := range n.Num {
		l = append(l, m.getOf(v, strconv.Itoa(i)))
	}
	return l
}

func (m *model) arrayOf(l []api.Value) api.Value {
	t := api.Thing{Kind: api.Array, Proto: null, Extensible: true, Props: []api.Entry{field("length", number(len(l)), "w")}}
	for i, v := range l {
		t.Props = append(t.Props, field(strconv.Itoa(i), v, "wec"))
	}
	return m.create(t)
}

func (m *model) From(d api.Desc) (v api.Value, r api.Reply) {
	r = m.caught(func() { v = m.from(d) })
	return v, r
}

func (m *model) To(v api.Value) (d api.Desc, r api.Reply) {
	r = m.caught(func() { d = m.to(v) })
	return d, r
}

func (m *model) List(v api.Value) (l []api.Value, r api.Reply) {
	r = m.caught(func() { l = m.list(v) })
	return l, r
}

func (m *model) Array(l []api.Value) (v api.Value, r api.Reply) {
	r = m.caught(func() { v = m.arrayOf(l) })
	return v, r
}
