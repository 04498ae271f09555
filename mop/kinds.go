package mop

import "understudy/api"

// object is an object of the heap as it was when a method of it began.
type object interface {
	self() *ordinary
	calls() bool
	makes() bool
}

// ordinary is what all objects have, and the kind of those that have nothing
// else.
type ordinary struct {
	number    int
	api.Thing // without Props and Args
}

type (
	array    struct{ ordinary }
	function struct{ ordinary }
	bound    struct{ ordinary }
	proxy    struct{ ordinary }
)

// object returns nil if there is no object o.
func (w *World) object(o int) object {
	t, ok := w.store().Head(o)
	if !ok {
		return nil
	}
	x := ordinary{number: o, Thing: t}
	switch t.Kind {
	case api.Array:
		return &array{x}
	case api.Function:
		return &function{x}
	case api.Bound:
		return &bound{x}
	case api.Proxy:
		return &proxy{x}
	}
	return &x
}

// objectOf returns nil if v is no object.
func (w *World) objectOf(v api.Value) object {
	if v.Kind != api.Object {
		return nil
	}
	return w.object(v.Num)
}

// perform performs the method m by the rules for the kind of x.
func (w *World) perform(m int, x object, a api.Ask) api.Reply {
	switch x := x.(type) {
	case *proxy:
		return w.delegate(m, x, a)
	case *array:
		if m == api.MDefine {
			return w.defineInArray(x, a)
		}
	}
	if isInvocation(m) {
		return w.invoke(m, x, a)
	}
	return w.ordinarily(m, x.self(), a)
}

func (x *ordinary) self() *ordinary { return x }

func (x *ordinary) calls() bool { return false }

func (x *ordinary) makes() bool { return false }

func (x *function) calls() bool { return true }

func (x *function) makes() bool { return x.Code == api.CWritten || x.Code == api.CProxy }

func (x *bound) calls() bool { return x.Calls }

func (x *bound) makes() bool { return x.Makes }

func (x *proxy) calls() bool { return x.Calls }

func (x *proxy) makes() bool { return x.Makes }
