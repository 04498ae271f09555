package mop

import (
	"understudy/api"
	"understudy/arrays"
	"understudy/desc"
	"understudy/keys"
)

// lengthName is the name of the property of an array that has its length.
const lengthName = "length"

func lengthKey() api.Key { return api.Key{Str: lengthName} }

// defineInArray performs MDefine on an array. What arrays do in their own way
// is meant for descriptors that are right; the others are refused first, as by
// any other object.
func (w *World) defineInArray(x *array, a api.Ask) api.Reply {
	if !desc.Right(a.Desc) {
		return w.Fail(typeError)
	}
	length, _ := w.store().Own(x.number, lengthKey())
	if a.Key == lengthKey() && a.Desc.HasValue {
		return w.defineLength(x, a, length)
	}
	if i, ok := keys.Index(a.Key); ok {
		return w.defineElement(x, a, i, length)
	}
	return w.apply(x.self(), a)
}

// defineLength defines the property length, which now has the descriptor
// length, with a value.
func (w *World) defineLength(x *array, a api.Ask, length api.Desc) api.Reply {
	to, ok := arrays.Length(a.Desc.Value)
	if !ok {
		return w.Fail(rangeError)
	}
	if to >= length.Value.Num {
		return w.apply(x.self(), a)
	}
	if _, ok := desc.Apply(x.Extensible, a.Desc, true, length); !ok || !length.Writable {
		return answer(false)
	}
	n := w.truncate(x, to)
	length.Value = numberValue(n)
	length.Writable = !a.Desc.HasWritable || a.Desc.Writable
	w.store().Put(x.number, lengthKey(), length)
	return answer(n == to)
}

// truncate removes the elements of x from the length to on, as far as
// possible, and returns the length that is left. It does not change the
// property length.
func (w *World) truncate(x *array, to int) int {
	t, _ := w.store().Get(x.number)
	rest, n := arrays.Cut(t.Props, to)
	t.Props = rest
	w.store().Set(x.number, t)
	return n
}

// defineElement defines the property with the index i of an array whose length
// has the descriptor length.
func (w *World) defineElement(x *array, a api.Ask, i int, length api.Desc) api.Reply {
	if i < length.Value.Num {
		return w.apply(x.self(), a)
	}
	if !length.Writable {
		return answer(false)
	}
	r := w.apply(x.self(), a)
	if r.OK {
		length.Value = numberValue(i + 1)
		w.store().Put(x.number, lengthKey(), length)
	}
	return r
}
