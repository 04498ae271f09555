package eval

import (
	"understudy/api"
	"understudy/keys"
)

// place is where an assignment puts a value.
type place interface {
	put(x *execution, v api.Value)
}

// variable is a name as seen from the present scope.
type variable struct{ name string }

// property is what a reference means.
type property struct {
	object int
	key    api.Key
}

type (
	refer  struct{ *api.Node } // to what an NMember or NIndex means, whose parts were evaluated
	get    struct{}            // the value of the property that was referred to
	remove struct{}            // the property that was referred to
	method struct{}            // the function of the property that was referred to, to be called on its object
	store  struct{}            // the value at the place that was found before it was evaluated
)

// reference finds the property that n, an NMember or NIndex, means.
func reference(n *api.Node) []task { return append(expressions(n.Kids), refer{n}) }

func isReference(n *api.Node) bool { return n.Kind == api.NMember || n.Kind == api.NIndex }

func (t refer) do(x *execution) {
	key := stringValue(t.Text)
	if t.Kind == api.NIndex {
		key = x.take()
	}
	x.places = append(x.places, x.property(x.take(), key))
}

// property returns the property of o that k names.
func (x *execution) property(o, k api.Value) property {
	if !isObject(o) {
		x.throw(typeError)
	}
	key, ok := keys.Of(k)
	if !ok {
		x.throw(typeError)
	}
	return property{object: o.Num, key: key}
}

// place returns the place that was found last.
func (x *execution) place() place {
	last := len(x.places) - 1
	p := x.places[last]
	x.places = x.places[:last]
	return p
}

// referred returns the place that was found last, where the kind of the node
// has told that it is a property.
func (x *execution) referred() property { return x.place().(property) }

// get returns the value of p.
func (x *execution) get(p property) api.Value {
	return x.must(x.w.Do(api.MGet, p.object, api.Ask{Key: p.key, Receiver: objectValue(p.object)})).Value
}

func (t get) do(x *execution) { x.give(x.get(x.referred())) }

func (t method) do(x *execution) {
	p := x.referred()
	x.give(objectValue(p.object))
	x.give(x.get(p))
}

func (t remove) do(x *execution) {
	p := x.referred()
	x.mustBeOK(x.w.Do(api.MDelete, p.object, api.Ask{Key: p.key}))
	x.give(boolValue(true))
}

// mustBeOK throws a TypeError if r is not OK.
func (x *execution) mustBeOK(r api.Reply) {
	if !x.must(r).OK {
		x.throw(typeError)
	}
}

// assign evaluates an NAssign. A name is looked for after the value was
// evaluated, a property before that.
func (x *execution) assign(n *api.Node) {
	target, value := &n.Kids[0], &n.Kids[1]
	if isReference(target) {
		x.then(append(reference(target), expression{value}, store{})...)
	} else {
		x.places = append(x.places, variable{target.Text})
		x.then(expression{value}, store{})
	}
}

// do leaves the value where it is, since it is that of the assignment, too.
func (t store) do(x *execution) { x.place().put(x, x.top()) }

func (p property) put(x *execution, v api.Value) {
	x.mustBeOK(x.w.Do(api.MSet, p.object, api.Ask{Key: p.key, Value: v, Receiver: objectValue(p.object)}))
}

func (p variable) put(x *execution, v api.Value) {
	switch x.m.scopes.Set(x.env, p.name, v) {
	case 1, 2:
		x.throw(referenceError)
	case 3:
		x.throw(typeError)
	}
}
