package run

import (
	"understudy/api"
	"understudy/eval"
	"understudy/values"
)

// execution is a program that was executed.
type execution struct {
	machine *eval.Machine
	reply   api.Reply
}

func (x *execution) isExecution() bool { return true }

func (x *execution) log() []api.Seen { return x.machine.World().Log() }

func (x *execution) outcome() api.Outcome {
	o := api.Outcome{Out: x.machine.Out()}
	switch x.reply.Flow {
	case api.Done:
		o.Tag, o.Shown = api.OValue, x.show(x.reply.Value)
	case api.Threw:
		o.Tag, o.Shown = api.OThrow, x.showThrown()
	case api.NoFuel:
		o.Tag = api.OFuel
	case api.NoRoom:
		o.Tag = api.ORoom
	case api.TooDeep:
		o.Tag = api.ODeep
	}
	return o
}

func (x *execution) show(v api.Value) string {
	return values.Show(v, x.machine.World().Calls(v))
}
