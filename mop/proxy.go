package mop

import (
	"understudy/api"
	"understudy/keys"
)

// Trap returns the name of the method m, by which a handler has its trap, or
// an empty string if there is no such method.
func Trap(m int) string {
	names := [...]string{
		api.MGetProto:  "getPrototypeOf",
		api.MSetProto:  "setPrototypeOf",
		api.MIsExt:     "isExtensible",
		api.MPrevent:   "preventExtensions",
		api.MGetOwn:    "getOwnPropertyDescriptor",
		api.MDefine:    "defineProperty",
		api.MHas:       "has",
		api.MGet:       "get",
		api.MSet:       "set",
		api.MDelete:    "deleteProperty",
		api.MKeys:      "ownKeys",
		api.MCall:      "apply",
		api.MConstruct: "construct",
	}
	if !isMethod(m) {
		return ""
	}
	return names[m]
}

// delegate performs the method m on a proxy.
func (w *World) delegate(m int, x *proxy, a api.Ask) api.Reply {
	if isInvocation(m) && !canBeInvoked(m, x) || x.Handler.Kind != api.Object {
		return w.Fail(typeError)
	}
	trap := w.getOf(x.Handler, Trap(m))
	if isAbrupt(trap) {
		return trap
	}
	if trap.Value.Kind == api.Undefined || trap.Value.Kind == api.Null {
		return w.ask(m, x.Target, a)
	}
	if !w.Calls(trap.Value) {
		return w.Fail(typeError)
	}
	further, r := w.trapArguments(m, a)
	if isAbrupt(r) {
		return r
	}
	list := append([]api.Value{x.Target}, further...)
	r = w.ask(api.MCall, trap.Value, api.Ask{Receiver: x.Handler, List: list})
	if isAbrupt(r) {
		return r
	}
	return trapped{w, x.Target, a, r.Value}.reply(m)
}

// trapArguments returns the arguments of the trap for m behind the target, and
// creates the objects among them.
func (w *World) trapArguments(m int, a api.Ask) ([]api.Value, api.Reply) {
	switch m {
	case api.MSetProto:
		return []api.Value{a.Value}, api.Reply{}
	case api.MGetOwn, api.MHas, api.MDelete:
		return []api.Value{keys.Value(a.Key)}, api.Reply{}
	case api.MGet:
		return []api.Value{keys.Value(a.Key), a.Receiver}, api.Reply{}
	case api.MSet:
		return []api.Value{keys.Value(a.Key), a.Value, a.Receiver}, api.Reply{}
	case api.MDefine:
		d, r := w.From(a.Desc)
		return []api.Value{keys.Value(a.Key), d}, r
	case api.MCall:
		l, r := w.Array(a.List)
		return []api.Value{a.Receiver, l}, r
	case api.MConstruct:
		l, r := w.Array(a.List)
		return []api.Value{l, a.Receiver}, r
	}
	return nil, api.Reply{}
}
