package run

import "understudy/api"

// thrown is a value that was thrown: a failure or another one.
type thrown interface{ value() api.Value }

type (
	other   struct{ v api.Value }
	failure struct { // an object of Kind Error that has a name of its own
		other
		name string
	}
)

func (t other) value() api.Value { return t.v }

// thrown returns the value that ended the program. The name of an error is
// looked up without a method, since the log has what the program performs.
func (x *execution) thrown() thrown {
	t := other{x.reply.Value}
	if !x.isError(t.v) {
		return t
	}
	d, _ := x.machine.World().Heap.Own(t.v.Num, api.Key{Str: "name"})
	if d.Value.Kind != api.String {
		return t
	}
	return failure{t, d.Value.Str}
}

func (x *execution) isError(v api.Value) bool {
	t, _ := x.machine.World().Heap.Head(v.Num)
	return v.Kind == api.Object && t.Kind == api.Error
}

// showThrown returns what is shown of the value that ended the program.
func (x *execution) showThrown() string {
	switch t := x.thrown().(type) {
	case failure:
		return t.name
	default:
		return x.show(t.value())
	}
}
