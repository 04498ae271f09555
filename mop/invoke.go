package mop

import (
	"slices"

	"understudy/api"
)

func isInvocation(m int) bool { return m == api.MCall || m == api.MConstruct }

// canBeInvoked reports whether x has the method m, which is MCall or
// MConstruct.
func canBeInvoked(m int, x object) bool {
	if m == api.MCall {
		return x.calls()
	}
	return x.makes()
}

// invoke performs MCall or MConstruct on an object that is no proxy.
func (w *World) invoke(m int, x object, a api.Ask) api.Reply {
	if !canBeInvoked(m, x) {
		return w.Fail(typeError)
	}
	if x.self().Kind == api.Bound {
		return w.invokeTarget(m, x.(*bound), a)
	}
	// Of the objects that can be invoked, only functions are left.
	f := x.(*function)
	if m == api.MConstruct {
		return w.construct(f, a)
	}
	return w.call(f, a)
}

// invokeTarget performs MCall or MConstruct on a bound function.
func (w *World) invokeTarget(m int, x *bound, a api.Ask) api.Reply {
	receiver := x.This
	if m == api.MConstruct {
		receiver = a.Receiver
		if receiver == objectValue(x.number) {
			receiver = x.Target
		}
	}
	t, _ := w.store().Get(x.number)
	return w.ask(m, x.Target, api.Ask{Receiver: receiver, List: slices.Concat(t.Args, a.List)})
}

func (w *World) call(f *function, a api.Ask) api.Reply {
	switch f.Code {
	case api.CConst:
		return api.Reply{Value: f.V}
	case api.CThrow:
		return api.Reply{Flow: api.Threw, Value: f.V}
	case api.CArg:
		return api.Reply{Value: argument(a.List, f.N)}
	case api.CThis:
		return api.Reply{Value: a.Receiver}
	case api.CProxy:
		return w.Fail(typeError)
	}
	return w.hand(f, a.Receiver, a.List)
}

func (w *World) construct(f *function, a api.Ask) api.Reply {
	if f.Code == api.CProxy {
		return w.hand(f, a.Receiver, a.List)
	}
	proto := w.getOf(a.Receiver, "prototype")
	if isAbrupt(proto) {
		return proto
	}
	if proto.Value.Kind != api.Object {
		proto.Value = nullValue()
	}
	made, r := w.create(api.Plain, proto.Value, nil)
	if isAbrupt(r) {
		return r
	}
	r = w.hand(f, made, a.List)
	if isAbrupt(r) || r.Value.Kind == api.Object {
		return r
	}
	return api.Reply{Value: made}
}

// hand has the Caller perform f. It gets a list of its own, since what Do was
// given must stay as it is.
func (w *World) hand(f *function, this api.Value, args []api.Value) api.Reply {
	if w.caller == nil {
		return w.Fail(typeError)
	}
	t, _ := w.store().Get(f.number)
	r := w.caller.Call(w, t, this, slices.Clone(args))
	if isAbrupt(r) {
		return r
	}
	return api.Reply{Value: r.Value}
}

// argument returns the n-th of the arguments, which is undefined if there are
// not as many.
func argument(l []api.Value, n int) api.Value {
	if n < 0 || n >= len(l) {
		return api.Value{}
	}
	return l[n]
}
