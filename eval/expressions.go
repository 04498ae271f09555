package eval

import (
	"understudy/api"
	"understudy/ops"
	"understudy/realm"
	"understudy/values"
)

type (
	expression struct{ *api.Node }
	array      struct{ *api.Node } // an NArray whose elements were evaluated
	operate    struct{ *api.Node } // an NUnary or NBinary whose operands were evaluated
	second     struct{ *api.Node } // the second operand of an NAnd or NOr, by the first one
)

// expressions has those of l evaluated in order.
func expressions(l []api.Node) []task {
	tasks := make([]task, 0, len(l)+1) // mostly one follows
	for i := range l {
		tasks = append(tasks, expression{&l[i]})
	}
	return tasks
}

func (t expression) do(x *execution) {
	x.step()
	switch n := t.Node; n.Kind {
	case api.NName:
		x.give(x.lookUp(n.Text))
	case api.NThis:
		x.give(x.this)
	case api.NArray:
		x.then(append(expressions(n.Kids), array{n})...)
	case api.NObject:
		x.object(n)
	case api.NFunc:
		x.give(x.functionExpression(n))
	case api.NMember, api.NIndex:
		x.then(append(reference(n), get{})...)
	case api.NCall:
		x.call(n)
	case api.NNew:
		x.then(append(expressions(n.Kids), construct{n})...)
	case api.NUnary:
		x.unary(n)
	case api.NBinary:
		x.then(append(expressions(n.Kids), operate{n})...)
	case api.NAnd, api.NOr:
		x.then(expression{&n.Kids[0]}, second{n})
	case api.NCond:
		x.then(expression{&n.Kids[0]}, choose{n})
	case api.NAssign:
		x.assign(n)
	default:
		x.give(literal(n))
	}
}

func literal(n *api.Node) api.Value {
	switch n.Kind {
	case api.NNumber:
		return api.Value{Kind: api.Number, Num: n.Num}
	case api.NString:
		return stringValue(n.Text)
	case api.NNull:
		return api.Value{Kind: api.Null}
	case api.NTrue, api.NFalse:
		return boolValue(n.Kind == api.NTrue)
	}
	return api.Value{}
}

func (x *execution) lookUp(name string) api.Value {
	v, state := x.m.scopes.Get(x.env, name)
	if state != 0 {
		x.throw(referenceError)
	}
	return v
}

func (t array) do(x *execution) {
	v, r := realm.List(x.w, x.takeAll(len(t.Kids)))
	x.must(r)
	x.give(v)
}

func (x *execution) unary(n *api.Node) {
	switch operand := &n.Kids[0]; {
	case n.Text == "delete":
		x.then(append(reference(operand), remove{})...)
	case n.Text == "typeof" && x.isUndeclared(operand):
		x.give(stringValue("undefined"))
	default:
		x.then(expression{operand}, operate{n})
	}
}

// isUndeclared reports whether n is a name that means nothing.
func (x *execution) isUndeclared(n *api.Node) bool {
	if n.Kind != api.NName {
		return false
	}
	_, state := x.m.scopes.Get(x.env, n.Text)
	return state == 1
}

func (t operate) do(x *execution) {
	if t.Kind == api.NUnary {
		x.give(x.unaryOf(t.Text, x.take()))
		return
	}
	operands := x.takeAll(2)
	x.give(x.binaryOf(t.Text, operands[0], operands[1]))
}

func (x *execution) unaryOf(op string, v api.Value) api.Value {
	switch op {
	case "!":
		return boolValue(!values.Truth(v))
	case "typeof":
		return stringValue(values.Type(v, x.w.Calls(v)))
	}
	return x.unlessError(ops.Minus(v))
}

func (x *execution) binaryOf(op string, a, b api.Value) api.Value {
	if op == "in" {
		p := x.property(b, a)
		return boolValue(x.must(x.w.Do(api.MHas, p.object, api.Ask{Key: p.key})).OK)
	}
	return x.unlessError(ops.Binary(op, a, b))
}

// unlessError returns v, unless there is the name of an error, which is
// thrown.
func (x *execution) unlessError(v api.Value, name string) api.Value {
	if name != "" {
		x.throw(name)
	}
	return v
}

func (t second) do(x *execution) {
	first := x.take()
	if values.Truth(first) == (t.Kind == api.NAnd) {
		x.then(expression{&t.Kids[1]})
	} else {
		x.give(first)
	}
}

func boolValue(b bool) api.Value {
	if b {
		return api.Value{Kind: api.Bool, Num: 1}
	}
	return api.Value{Kind: api.Bool}
}

func stringValue(s string) api.Value { return api.Value{Kind: api.String, Str: s} }
