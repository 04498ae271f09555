package reflect

import (
	"understudy/api"
	"understudy/mop"
)

// object is an argument that is an object.
type object interface{ value() api.Value }

// constructor is an object that is one.
type constructor interface {
	object
	constructs()
}

// The kinds of objects. Being called and being a constructor are independent
// of each other, since bound functions and proxies have a flag for each.
type (
	plain    struct{ v api.Value } // neither
	function struct{ plain }       // can be called
	factory  struct{ plain }       // is a constructor
	class    struct{ factory }     // both
)

// objectOf returns v as the kind of object that it is, or nil if it is none.
func objectOf(w *mop.World, v api.Value) object {
	if v.Kind != api.Object {
		return nil
	}
	x := plain{v}
	switch calls, makes := w.Calls(v), w.Makes(v); {
	case calls && makes:
		return class{factory{x}}
	case calls:
		return function{x}
	case makes:
		return factory{x}
	}
	return x
}

// canPerform reports whether x is an object that has the method m.
func canPerform(m int, x object) bool {
	switch x.(type) {
	case class:
		return true
	case function:
		return m != api.MConstruct
	case factory:
		return m != api.MCall
	case plain:
		return m != api.MCall && m != api.MConstruct
	}
	return false
}

func (x plain) value() api.Value { return x.v }

func (factory) constructs() {}
