package natives

import (
	"understudy/api"
	"understudy/heap"
	"understudy/mop"
)

const typeError = "TypeError"

// call is a call of a built-in function.
type call struct {
	n    *Natives
	w    *mop.World
	f    api.Thing
	this api.Value
	args []api.Value
}

func (c call) fail() api.Reply { return c.w.Fail(typeError) }

// argument returns the i-th argument, which is undefined if it is missing.
func (c call) argument(i int) api.Value {
	if i >= len(c.args) {
		return api.Value{}
	}
	return c.args[i]
}

// further returns the arguments behind the first one.
func (c call) further() []api.Value {
	if len(c.args) == 0 {
		return nil
	}
	return c.args[1:]
}

// heap returns the objects of the world. Since its Heap can be set by anyone,
// there may be none; that is like one without room.
func (c call) heap() *heap.Heap {
	if c.w.Heap == nil {
		return heap.New(0)
	}
	return c.w.Heap
}

// head returns the object v without its Props and Args, or a plain object if v
// is none.
func (c call) head(v api.Value) api.Thing {
	if !isObject(v) {
		return api.Thing{Kind: api.Plain}
	}
	t, _ := c.heap().Head(v.Num)
	return t
}

// make creates an object, which is extensible.
func (c call) make(t api.Thing) (api.Value, api.Reply) {
	t.Extensible = true
	o, ok := c.heap().Make(t)
	if !ok {
		return api.Value{}, api.Reply{Flow: api.NoRoom}
	}
	return api.Value{Kind: api.Object, Num: o}, api.Reply{}
}

// property returns a data property that can be changed in every way.
func property(k string, v api.Value) api.Entry {
	return api.Entry{Key: api.Key{Str: k}, Desc: api.Desc{
		HasValue: true, Value: v,
		HasWritable: true, Writable: true,
		HasEnumerable: true, Enumerable: true,
		HasConfigurable: true, Configurable: true,
	}}
}

// result returns v, or r if that is abrupt.
func result(v api.Value, r api.Reply) api.Reply {
	if isAbrupt(r) {
		return r
	}
	return api.Reply{Value: v}
}

func boolValue(b bool) api.Value {
	if b {
		return api.Value{Kind: api.Bool, Num: 1}
	}
	return api.Value{Kind: api.Bool}
}

func isObject(v api.Value) bool { return v.Kind == api.Object }

func isAbrupt(r api.Reply) bool { return r.Flow != api.Done }

func nullValue() api.Value { return api.Value{Kind: api.Null} }
