package eval

import (
	"slices"

	"understudy/api"
	"understudy/realm"
)

// protoOfFunctions is the object that realm has created for that.
const protoOfFunctions = 1

type (
	part   struct{ *api.Node } // of an NObject
	naming struct{}            // the property of an NPair whose key was evaluated
	define struct{}            // the property of an NPair whose value was evaluated
)

// object creates the object of an NObject, which is given first, so that the
// parts find it.
func (x *execution) object(n *api.Node) {
	x.give(x.plain())
	for i := range slices.Backward(n.Kids) {
		x.then(part{&n.Kids[i]})
	}
}

// plain creates an object like those that programs write.
func (x *execution) plain() api.Value { return x.made(realm.Object(x.w)) }

func (t part) do(x *execution) {
	if t.Kind == api.NPair {
		x.then(expression{&t.Kids[0]}, naming{}, expression{&t.Kids[1]}, define{})
		return
	}
	d := api.Desc{HasEnumerable: true, Enumerable: true, HasConfigurable: true, Configurable: true}
	f := x.function(&t.Kids[0], x.env)
	if t.Kind == api.NGet {
		d.HasGet, d.Get = true, f
	} else {
		d.HasSet, d.Set = true, f
	}
	x.define(x.property(x.top(), stringValue(t.Text)), d)
}

func (t naming) do(x *execution) {
	key := x.take()
	x.places = append(x.places, x.property(x.top(), key))
}

func (t define) do(x *execution) {
	x.define(x.referred(), data(x.take(), true, true, true))
}

func (x *execution) define(p property, d api.Desc) {
	x.mustBeOK(x.w.Do(api.MDefine, p.object, api.Ask{Key: p.key, Desc: d}))
}

// functionExpression creates the function of an NFunc that is an expression. If
// it has a name, this has a scope of its own around the function.
func (x *execution) functionExpression(n *api.Node) api.Value {
	if n.Text == "" {
		return x.function(n, x.env)
	}
	env := x.m.scopes.Make(x.env)
	f := x.function(n, env)
	x.m.scopes.Let(env, n.Text, true)
	x.m.scopes.Begin(env, n.Text, f)
	return f
}

// function creates the function n in the scope env.
func (x *execution) function(n *api.Node, env int) api.Value {
	f := x.make(api.Thing{
		Kind: api.Function, Proto: objectValue(protoOfFunctions), Extensible: true,
		Code: api.CWritten, N: n.Num, Env: env,
	})
	x.heap().Put(f.Num, api.Key{Str: "prototype"}, data(x.plain(), true, false, false))
	return f
}

func data(v api.Value, writable, enumerable, configurable bool) api.Desc {
	return api.Desc{
		HasValue: true, Value: v,
		HasWritable: true, Writable: writable,
		HasEnumerable: true, Enumerable: enumerable,
		HasConfigurable: true, Configurable: configurable,
	}
}
