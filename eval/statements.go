package eval

import (
	"slices"

	"understudy/api"
	"understudy/values"
)

// What Num of an STry says that it has.
const (
	hasCatch   = 1
	hasFinally = 2
)

type (
	list      struct{ *api.Node } // the statements of a block, a program or a function, in the present scope
	statement struct{ *api.Node }
	conclude  struct{ *api.Node } // a statement whose expression, if it has one, was evaluated
	choose    struct{ *api.Node } // one of the kids of an SIf or NCond, by the condition
	round     struct{ *api.Node } // of an SWhile, and all that follow
	body      struct{ *api.Node } // of an SWhile, by the condition
	rescue    struct{ *api.Node } // the SCatch of an STry
	cleanup   struct{ *api.Node } // the block behind the finally of an STry
	resume    struct{ api.Reply } // with what the block behind a finally has interrupted
	leave     struct{ outer int } // a scope
)

// do declares all names before a statement is executed, so that functions see
// each other.
func (t list) do(x *execution) {
	for i := range t.Kids {
		x.hoist(&t.Kids[i])
	}
	for i := range t.Kids {
		if n := &t.Kids[i]; n.Kind == api.SFunc {
			x.begin(n.Kids[0].Text, x.function(&n.Kids[0], x.env))
		}
	}
	for i := range slices.Backward(t.Kids) {
		x.then(statement{&t.Kids[i]})
	}
}

// hoist declares the name that the statement n declares, if it does.
func (x *execution) hoist(n *api.Node) {
	switch n.Kind {
	case api.SLet, api.SConst:
		x.m.scopes.Let(x.env, n.Text, n.Kind == api.SConst)
	case api.SFunc:
		x.m.scopes.Let(x.env, n.Kids[0].Text, false)
	}
}

// begin gives a name of the present scope its first value.
func (x *execution) begin(name string, v api.Value) { x.m.scopes.Begin(x.env, name, v) }

// declare declares a variable in the present scope.
func (x *execution) declare(name string, v api.Value) {
	x.m.scopes.Let(x.env, name, false)
	x.begin(name, v)
}

// enter makes a new scope the present one, until what is done next is done.
func (x *execution) enter() {
	x.then(leave{x.env})
	x.env = x.m.scopes.Make(x.env)
}

func (t leave) do(x *execution) { x.env = t.outer }

// block has a block executed, without a step of its own.
func (x *execution) block(n *api.Node) {
	x.enter()
	x.then(list{n})
}

func (t statement) do(x *execution) {
	x.step()
	switch n := t.Node; n.Kind {
	case api.SLet, api.SConst, api.SExpr, api.SReturn, api.SThrow:
		x.then(append(expressions(n.Kids), conclude{n})...)
	case api.SIf:
		x.then(expression{&n.Kids[0]}, choose{n})
	case api.SWhile:
		x.then(round{n})
	case api.SBlock:
		x.block(n)
	case api.STry:
		x.attempt(n)
	case api.SBreak:
		x.end(api.Reply{Flow: api.Break})
	case api.SContinue:
		x.end(api.Reply{Flow: api.Again})
	}
}

func (t conclude) do(x *execution) {
	v := api.Value{}
	if len(t.Kids) > 0 {
		v = x.take()
	}
	switch t.Kind {
	case api.SExpr:
		x.last = v
	case api.SReturn:
		x.end(api.Reply{Flow: api.Return, Value: v})
	case api.SThrow:
		x.end(api.Reply{Flow: api.Threw, Value: v})
	default:
		x.begin(t.Text, v)
	}
}

func (t choose) do(x *execution) {
	which := 2
	if values.Truth(x.take()) {
		which = 1
	}
	if which == len(t.Kids) {
		return // an SIf without else
	}
	n := &t.Kids[which]
	if t.Kind == api.SIf {
		x.then(statement{n})
	} else {
		x.then(expression{n})
	}
}

func (t round) do(x *execution) { x.then(expression{&t.Kids[0]}, body{t.Node}) }

func (t body) do(x *execution) {
	if values.Truth(x.take()) {
		x.then(statement{&t.Kids[1]}, round{t.Node})
	}
}

func (x *execution) attempt(n *api.Node) {
	if n.Num&hasFinally != 0 {
		x.then(cleanup{&n.Kids[len(n.Kids)-1]})
	}
	if n.Num&hasCatch != 0 {
		x.then(rescue{&n.Kids[1]})
	}
	x.block(&n.Kids[0])
}

// do has nothing to do, since nothing was thrown.
func (t rescue) do(x *execution) {}

// catch executes the block of an SCatch for what was thrown.
func (t rescue) catch(x *execution, thrown api.Value) {
	x.enter()
	x.declare(t.Text, thrown)
	x.block(&t.Kids[0])
}

func (t cleanup) do(x *execution) { x.block(t.Node) }

func (t resume) do(x *execution) { x.end(t.Reply) }
