package mop

import (
	"understudy/api"
	"understudy/desc"
	"understudy/numbers"
	"understudy/values"
)

// From returns an object that describes d.
func (w *World) From(d api.Desc) (api.Value, api.Reply) {
	var props []api.Entry
	add := func(has bool, name string, v api.Value) {
		if has {
			props = append(props, api.Entry{Key: api.Key{Str: name}, Desc: data(v, true, true, true)})
		}
	}
	add(d.HasValue, "value", d.Value)
	add(d.HasWritable, "writable", boolValue(d.Writable))
	add(d.HasGet, "get", d.Get)
	add(d.HasSet, "set", d.Set)
	add(d.HasEnumerable, "enumerable", boolValue(d.Enumerable))
	add(d.HasConfigurable, "configurable", boolValue(d.Configurable))
	return w.create(api.Plain, nullValue(), props)
}

// To returns the descriptor that the object v describes. If v is no object,
// the first look at it throws.
func (w *World) To(v api.Value) (api.Desc, api.Reply) {
	var d api.Desc
	for _, name := range [...]string{"enumerable", "configurable", "value", "writable", "get", "set"} {
		field, has, r := w.field(v, name)
		if isAbrupt(r) {
			return api.Desc{}, r
		}
		if !has {
			continue
		}
		if (name == "get" || name == "set") && field.Kind != api.Undefined && !w.Calls(field) {
			return api.Desc{}, w.Fail(typeError)
		}
		d = withField(d, name, field)
	}
	if !desc.Right(d) {
		return api.Desc{}, w.Fail(typeError)
	}
	return d, api.Reply{}
}

// field returns the value of the property of v with that name, or false if
// there is none.
func (w *World) field(v api.Value, name string) (api.Value, bool, api.Reply) {
	r := w.ask(api.MHas, v, api.Ask{Key: api.Key{Str: name}})
	if isAbrupt(r) {
		return api.Value{}, false, r
	}
	if !r.OK {
		return api.Value{}, false, api.Reply{}
	}
	r = w.getOf(v, name)
	if isAbrupt(r) {
		return api.Value{}, false, r
	}
	return r.Value, true, api.Reply{}
}

// withField returns d with the field of that name.
func withField(d api.Desc, name string, v api.Value) api.Desc {
	switch name {
	case "enumerable":
		d.HasEnumerable, d.Enumerable = true, values.Truth(v)
	case "configurable":
		d.HasConfigurable, d.Configurable = true, values.Truth(v)
	case "value":
		d.HasValue, d.Value = true, v
	case "writable":
		d.HasWritable, d.Writable = true, values.Truth(v)
	case "get":
		d.HasGet, d.Get = true, v
	case "set":
		d.HasSet, d.Set = true, v
	}
	return d
}

// List returns the elements of the array-like object v. If v is no object, the
// first look at it throws.
func (w *World) List(v api.Value) ([]api.Value, api.Reply) {
	r := w.getOf(v, lengthName)
	if isAbrupt(r) {
		return nil, r
	}
	length := r.Value
	if length.Kind != api.Number || length.Num < 0 || length.Num > api.MaxList {
		return nil, w.Fail(rangeError)
	}
	var l []api.Value
	for i := range length.Num {
		r := w.getOf(v, numbers.Text(i))
		if isAbrupt(r) {
			return nil, r
		}
		l = append(l, r.Value)
	}
	return l, api.Reply{}
}

// Array returns a new array with the elements l, which has no prototype.
func (w *World) Array(l []api.Value) (api.Value, api.Reply) { return w.ArrayWith(nullValue(), l) }

// ArrayWith returns a new array with the prototype proto and the elements l.
func (w *World) ArrayWith(proto api.Value, l []api.Value) (api.Value, api.Reply) {
	props := make([]api.Entry, 0, len(l)+1)
	props = append(props, api.Entry{Key: lengthKey(), Desc: data(numberValue(len(l)), true, false, false)})
	for i, v := range l {
		k := api.Key{Str: numbers.Text(i)}
		props = append(props, api.Entry{Key: k, Desc: data(v, true, true, true)})
	}
	return w.create(api.Array, proto, props)
}

// create makes an extensible object.
func (w *World) create(kind int, proto api.Value, props []api.Entry) (api.Value, api.Reply) {
	o, ok := w.store().Make(api.Thing{Kind: kind, Proto: proto, Extensible: true, Props: props})
	if !ok {
		return api.Value{}, api.Reply{Flow: api.NoRoom}
	}
	return objectValue(o), api.Reply{}
}

// data returns the whole descriptor of a data property.
func data(v api.Value, writable, enumerable, configurable bool) api.Desc {
	return api.Desc{
		HasValue: true, Value: v,
		HasWritable: true, Writable: writable,
		HasEnumerable: true, Enumerable: enumerable,
		HasConfigurable: true, Configurable: configurable,
	}
}

func nullValue() api.Value { return api.Value{Kind: api.Null} }

func numberValue(n int) api.Value { return api.Value{Kind: api.Number, Num: n} }

func objectValue(o int) api.Value { return api.Value{Kind: api.Object, Num: o} }

func boolValue(b bool) api.Value {
	if b {
		return api.Value{Kind: api.Bool, Num: 1}
	}
	return api.Value{Kind: api.Bool}
}
