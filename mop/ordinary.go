package mop

import (
	"understudy/api"
	"understudy/desc"
	"understudy/values"
)

// ordinarily performs the method m as all objects do that are no proxies.
func (w *World) ordinarily(m int, x *ordinary, a api.Ask) api.Reply {
	switch m {
	case api.MGetProto:
		return api.Reply{Value: x.Proto}
	case api.MSetProto:
		return w.setProto(x, a.Value)
	case api.MIsExt:
		return answer(x.Extensible)
	case api.MPrevent:
		return w.prevent(x)
	case api.MGetOwn:
		d, ok := w.store().Own(x.number, a.Key)
		return api.Reply{Has: ok, Desc: d}
	case api.MDefine:
		return w.define(x, a)
	case api.MHas:
		return w.has(x, a)
	case api.MGet:
		return w.get(x, a)
	case api.MSet:
		return w.set(x, a)
	case api.MDelete:
		return w.remove(x, a)
	}
	return api.Reply{Keys: w.store().Keys(x.number)}
}

func (w *World) setProto(x *ordinary, v api.Value) api.Reply {
	if !isObjectOrNull(v) {
		return w.Fail(typeError)
	}
	if values.Same(v, x.Proto) {
		return answer(true)
	}
	if !x.Extensible || w.reaches(v, x.number) {
		return answer(false)
	}
	t, _ := w.store().Get(x.number)
	t.Proto = v
	w.store().Set(x.number, t)
	return answer(true)
}

// reaches reports whether the object o is reached from v by following Proto.
// What is behind a proxy does not count. The objects may form a ring that
// leaves o out, so there is an end to it.
func (w *World) reaches(v api.Value, o int) bool {
	for range w.store().Len() {
		if v.Kind != api.Object {
			return false
		}
		if v.Num == o {
			return true
		}
		t, _ := w.store().Head(v.Num)
		if t.Kind == api.Proxy {
			return false
		}
		v = t.Proto
	}
	return false
}

func (w *World) prevent(x *ordinary) api.Reply {
	if x.Extensible {
		t, _ := w.store().Get(x.number)
		t.Extensible = false
		w.store().Set(x.number, t)
	}
	return answer(true)
}

func (w *World) define(x *ordinary, a api.Ask) api.Reply {
	if !desc.Right(a.Desc) {
		return w.Fail(typeError)
	}
	return w.apply(x, a)
}

// apply applies a descriptor that is right to the own property.
func (w *World) apply(x *ordinary, a api.Ask) api.Reply {
	now, has := w.store().Own(x.number, a.Key)
	d, ok := desc.Apply(x.Extensible, a.Desc, has, now)
	if ok {
		w.store().Put(x.number, a.Key, d)
	}
	return answer(ok)
}

func (w *World) has(x *ordinary, a api.Ask) api.Reply {
	own := w.Do(api.MGetOwn, x.number, api.Ask{Key: a.Key})
	if isAbrupt(own) {
		return own
	}
	if own.Has {
		return answer(true)
	}
	r, _ := w.inherited(api.MHas, x, api.Ask{Key: a.Key})
	return r
}

func (w *World) get(x *ordinary, a api.Ask) api.Reply {
	own := w.Do(api.MGetOwn, x.number, api.Ask{Key: a.Key})
	if isAbrupt(own) {
		return own
	}
	if own.Has {
		return w.read(own.Desc, a.Receiver)
	}
	r, _ := w.inherited(api.MGet, x, api.Ask{Key: a.Key, Receiver: a.Receiver})
	return r
}

// read returns the value of a property with the descriptor d.
func (w *World) read(d api.Desc, receiver api.Value) api.Reply {
	if !desc.Accessor(d) {
		return api.Reply{Value: d.Value}
	}
	if d.Get.Kind == api.Undefined {
		return api.Reply{}
	}
	return w.ask(api.MCall, d.Get, api.Ask{Receiver: receiver})
}

func (w *World) set(x *ordinary, a api.Ask) api.Reply {
	own := w.Do(api.MGetOwn, x.number, api.Ask{Key: a.Key})
	if isAbrupt(own) {
		return own
	}
	d := own.Desc
	if !own.Has {
		r, ok := w.inherited(api.MSet, x, api.Ask{Key: a.Key, Value: a.Value, Receiver: a.Receiver})
		if ok {
			return r
		}
		d = data(api.Value{}, true, true, true)
	}
	if desc.Accessor(d) {
		return w.write(d, a)
	}
	if !d.Writable || a.Receiver.Kind != api.Object {
		return answer(false)
	}
	return w.place(a)
}

// write sets the value of an accessor property with the descriptor d.
func (w *World) write(d api.Desc, a api.Ask) api.Reply {
	if d.Set.Kind == api.Undefined {
		return answer(false)
	}
	r := w.ask(api.MCall, d.Set, api.Ask{Receiver: a.Receiver, List: []api.Value{a.Value}})
	if isAbrupt(r) {
		return r
	}
	return answer(true)
}

// place sets the value of a data property of the receiver, which is an object,
// or adds such a property to it.
func (w *World) place(a api.Ask) api.Reply {
	own := w.ask(api.MGetOwn, a.Receiver, api.Ask{Key: a.Key})
	if isAbrupt(own) {
		return own
	}
	d := data(a.Value, true, true, true)
	if own.Has {
		if desc.Accessor(own.Desc) || !own.Desc.Writable {
			return answer(false)
		}
		d = api.Desc{HasValue: true, Value: a.Value}
	}
	return w.ask(api.MDefine, a.Receiver, api.Ask{Key: a.Key, Desc: d})
}

func (w *World) remove(x *ordinary, a api.Ask) api.Reply {
	own := w.Do(api.MGetOwn, x.number, api.Ask{Key: a.Key})
	if isAbrupt(own) {
		return own
	}
	if own.Has && !own.Desc.Configurable {
		return answer(false)
	}
	w.store().Drop(x.number, a.Key)
	return answer(true)
}

// inherited returns the reply of the prototype of x to the method m, or false
// if x has no prototype.
func (w *World) inherited(m int, x *ordinary, a api.Ask) (api.Reply, bool) {
	r := w.Do(api.MGetProto, x.number, api.Ask{})
	if isAbrupt(r) {
		return r, true
	}
	if r.Value.Kind != api.Object {
		return api.Reply{}, false
	}
	return w.ask(m, r.Value, a), true
}

// ask performs the method m on v. A value that is no object is treated like an
// object that does not exist.
func (w *World) ask(m int, v api.Value, a api.Ask) api.Reply {
	if v.Kind != api.Object {
		return w.Fail(typeError)
	}
	return w.Do(m, v.Num, a)
}

// getOf returns the value of the property k of v.
func (w *World) getOf(v api.Value, k string) api.Reply {
	return w.ask(api.MGet, v, api.Ask{Key: api.Key{Str: k}, Receiver: v})
}

func answer(ok bool) api.Reply { return api.Reply{OK: ok} }

func isObjectOrNull(v api.Value) bool { return v.Kind == api.Object || v.Kind == api.Null }
