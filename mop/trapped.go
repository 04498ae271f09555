package mop

import (
	"understudy/api"
	"understudy/desc"
	"understudy/keys"
	"understudy/rules"
	"understudy/values"
)

// trapped is a method of a proxy whose trap has returned.
type trapped struct {
	w      *World
	target api.Value
	ask    api.Ask
	result api.Value
}

// reply returns the reply of the method m, for which the result of the trap
// must not contradict what the target is like.
func (t trapped) reply(m int) api.Reply {
	switch m {
	case api.MGetProto:
		return t.getProto()
	case api.MIsExt:
		return t.isExt()
	case api.MGetOwn:
		return t.getOwn()
	case api.MHas:
		return t.has()
	case api.MGet:
		return t.get()
	case api.MKeys:
		return t.keys()
	case api.MCall:
		return api.Reply{Value: t.result}
	case api.MConstruct:
		return t.when(t.result.Kind == api.Object, api.Reply{Value: t.result})
	}
	if !values.Truth(t.result) {
		return answer(false)
	}
	return t.success(m)
}

// success returns the reply of a method that changes the object, whose trap
// has said that it did.
func (t trapped) success(m int) api.Reply {
	switch m {
	case api.MSetProto:
		return t.setProto()
	case api.MPrevent:
		return t.prevent()
	case api.MDefine:
		return t.define()
	case api.MSet:
		return t.set()
	}
	return t.remove()
}

func (t trapped) getProto() api.Reply {
	if !isObjectOrNull(t.result) {
		return t.w.Fail(typeError)
	}
	ext := t.isTargetExt()
	if isAbrupt(ext) {
		return ext
	}
	told := api.Reply{Value: t.result}
	if ext.OK {
		return told
	}
	proto := t.w.ask(api.MGetProto, t.target, api.Ask{})
	if isAbrupt(proto) {
		return proto
	}
	return t.when(rules.GetProto(ext.OK, proto.Value, t.result), told)
}

func (t trapped) setProto() api.Reply {
	ext := t.isTargetExt()
	if isAbrupt(ext) || ext.OK {
		return ext
	}
	proto := t.w.ask(api.MGetProto, t.target, api.Ask{})
	if isAbrupt(proto) {
		return proto
	}
	return t.when(rules.SetProto(ext.OK, proto.Value, t.ask.Value), answer(true))
}

func (t trapped) isExt() api.Reply {
	ext := t.isTargetExt()
	if isAbrupt(ext) {
		return ext
	}
	return t.when(ext.OK == values.Truth(t.result), ext)
}

func (t trapped) prevent() api.Reply {
	ext := t.isTargetExt()
	if isAbrupt(ext) {
		return ext
	}
	return t.when(!ext.OK, answer(true))
}

func (t trapped) getOwn() api.Reply {
	if t.result.Kind != api.Undefined && t.result.Kind != api.Object {
		return t.w.Fail(typeError)
	}
	own := t.targetOwn(t.ask.Key)
	if isAbrupt(own) {
		return own
	}
	if t.result.Kind == api.Undefined {
		rule := func(ext, has bool, target api.Desc) bool {
			return rules.GetOwn(ext, has, target, false, api.Desc{})
		}
		return t.missing(own, rule, api.Reply{})
	}
	ext := t.isTargetExt()
	if isAbrupt(ext) {
		return ext
	}
	d, r := t.w.To(t.result)
	if isAbrupt(r) {
		return r
	}
	told := api.Reply{Has: true, Desc: desc.Complete(d)}
	return t.when(rules.GetOwn(ext.OK, own.Has, own.Desc, true, d), told)
}

func (t trapped) define() api.Reply {
	own := t.targetOwn(t.ask.Key)
	if isAbrupt(own) {
		return own
	}
	ext := t.isTargetExt()
	if isAbrupt(ext) {
		return ext
	}
	return t.when(rules.Define(ext.OK, own.Has, own.Desc, t.ask.Desc), answer(true))
}

func (t trapped) has() api.Reply {
	if values.Truth(t.result) {
		return answer(true)
	}
	own := t.targetOwn(t.ask.Key)
	if isAbrupt(own) {
		return own
	}
	return t.missing(own, rules.Has, answer(false))
}

func (t trapped) get() api.Reply {
	own := t.targetOwn(t.ask.Key)
	if isAbrupt(own) {
		return own
	}
	return t.when(rules.Get(own.Has, own.Desc, t.result), api.Reply{Value: t.result})
}

func (t trapped) set() api.Reply {
	own := t.targetOwn(t.ask.Key)
	if isAbrupt(own) {
		return own
	}
	return t.when(rules.Set(own.Has, own.Desc, t.ask.Value), answer(true))
}

func (t trapped) remove() api.Reply {
	own := t.targetOwn(t.ask.Key)
	if isAbrupt(own) {
		return own
	}
	return t.missing(own, rules.Delete, answer(true))
}

func (t trapped) keys() api.Reply {
	list, r := t.w.List(t.result)
	if isAbrupt(r) {
		return r
	}
	told, ok := distinctKeys(list)
	if !ok {
		return t.w.Fail(typeError)
	}
	ext := t.isTargetExt()
	if isAbrupt(ext) {
		return ext
	}
	props, r := t.targetProps()
	if isAbrupt(r) {
		return r
	}
	return t.when(rules.Keys(ext.OK, props, told), api.Reply{Keys: told})
}

// distinctKeys returns the keys that l consists of, or false if an element is
// no key or occurs twice.
func distinctKeys(l []api.Value) ([]api.Key, bool) {
	told := make([]api.Key, 0, len(l))
	seen := make(map[api.Key]struct{}, len(l))
	for _, v := range l {
		if v.Kind != api.String && v.Kind != api.Symbol {
			return nil, false
		}
		k, _ := keys.Of(v)
		told = append(told, k)
		seen[k] = struct{}{}
	}
	return told, len(seen) == len(told)
}

// targetProps returns the properties of the target.
func (t trapped) targetProps() ([]api.Entry, api.Reply) {
	all := t.w.ask(api.MKeys, t.target, api.Ask{})
	if isAbrupt(all) {
		return nil, all
	}
	var props []api.Entry
	for _, k := range all.Keys {
		own := t.targetOwn(k)
		if isAbrupt(own) {
			return nil, own
		}
		if own.Has {
			props = append(props, api.Entry{Key: k, Desc: own.Desc})
		}
	}
	return props, api.Reply{}
}

// missing returns told, the reply that the property is not there (any more),
// where own is what the target has.
func (t trapped) missing(own api.Reply, rule func(ext, has bool, target api.Desc) bool, told api.Reply) api.Reply {
	if !own.Has {
		return told
	}
	if !own.Desc.Configurable {
		return t.w.Fail(typeError)
	}
	ext := t.isTargetExt()
	if isAbrupt(ext) {
		return ext
	}
	return t.when(rule(ext.OK, own.Has, own.Desc), told)
}

// when returns told, or throws if it is not allowed.
func (t trapped) when(allowed bool, told api.Reply) api.Reply {
	if !allowed {
		return t.w.Fail(typeError)
	}
	return told
}

func (t trapped) isTargetExt() api.Reply {
	return t.w.ask(api.MIsExt, t.target, api.Ask{})
}

func (t trapped) targetOwn(k api.Key) api.Reply {
	return t.w.ask(api.MGetOwn, t.target, api.Ask{Key: k})
}
