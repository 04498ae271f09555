package eval

import "understudy/api"

type (
	call      struct{ *api.Node } // an NCall whose parts were evaluated
	construct struct{ *api.Node } // an NNew whose parts were evaluated
)

// call evaluates an NCall. What the function is called on is given first, then
// the function and the arguments.
func (x *execution) call(n *api.Node) {
	x.then(append(expressions(n.Kids[1:]), call{n})...)
	if callee := &n.Kids[0]; isReference(callee) {
		x.then(append(reference(callee), method{})...)
	} else {
		x.give(api.Value{})
		x.then(expression{callee})
	}
}

func (t call) do(x *execution) {
	args := x.takeAll(len(t.Kids) - 1)
	f, this := x.take(), x.take()
	if !x.w.Calls(f) {
		x.throw(typeError)
	}
	x.give(x.must(x.w.Do(api.MCall, f.Num, api.Ask{Receiver: this, List: args})).Value)
}

func (t construct) do(x *execution) {
	args := x.takeAll(len(t.Kids) - 1)
	f := x.take()
	if !x.w.Makes(f) {
		x.throw(typeError)
	}
	x.give(x.must(x.w.Do(api.MConstruct, f.Num, api.Ask{Receiver: f, List: args})).Value)
}
