package ops

import (
	"understudy/api"
	"understudy/values"
)

// operand is a valid value as a type that tells whether it is a string. It has
// a text and a number, or false in place of one that its kind does not have.
type operand interface {
	text() (string, bool)
	number() (int, bool)
}

// Strings are what `+` joins and what is compared by units; the other kinds
// have no operators of their own.
type (
	other struct{ v api.Value }
	str   struct{ other }
)

func operandOf(v api.Value) operand {
	x := other{v}
	if v.Kind == api.String {
		return str{x}
	}
	return x
}

func isText(x operand) bool {
	_, ok := x.(str)
	return ok
}

func (x other) text() (string, bool) { return values.Text(x.v) }

func (x other) number() (int, bool) { return values.Number(x.v) }
