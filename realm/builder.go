package realm

import (
	"understudy/api"
	"understudy/heap"
	"understudy/reflect"
	"understudy/scope"
)

// builder creates one thing after the other as long as there is room. As soon
// as there is none it is full, and its methods do nothing any more.
type builder struct {
	heap   *heap.Heap
	scopes *scope.Scopes
	codes  map[string]int
	full   bool
}

// codes returns the Code of each function by its name.
func codes() map[string]int {
	all := map[string]int{
		"call":      api.CCall,
		"bind":      api.CBind,
		"Proxy":     api.CProxy,
		"revocable": api.CRevocable,
		"create":    api.CCreate,
		"freeze":    api.CFreeze,
		"seal":      api.CSeal,
		"isFrozen":  api.CFrozen,
		"isSealed":  api.CSealed,
		"keys":      api.CKeys,
		"Symbol":    api.CSymbol,
		"isArray":   api.CIsArray,
		"print":     api.CPrint,
	}
	for m := api.MGetProto; m <= api.MConstruct; m++ {
		all[reflect.Name(m)] = api.CReflect + m
	}
	return all
}

// methods returns the names of the functions of Reflect in their order.
func methods() []string {
	var l []string
	for m := api.MGetProto; m <= api.MConstruct; m++ {
		l = append(l, reflect.Name(m))
	}
	return l
}

func (b *builder) prototypes() {
	b.make(plain(nullValue()))
	b.make(plain(objectValue(protoOfObjects)))
	b.make(plain(objectValue(protoOfObjects)))
}

// functions creates functions that are properties of holder.
func (b *builder) functions(holder api.Value, names ...string) {
	for _, name := range names {
		f := b.make(b.function(name))
		if b.full {
			return
		}
		b.heap.Put(holder.Num, api.Key{Str: name}, hidden(f))
	}
}

func (b *builder) globalFunction(name string) api.Value { return b.global(name, b.function(name)) }

func (b *builder) globalObject(name string) api.Value {
	return b.global(name, plain(objectValue(protoOfObjects)))
}

// global creates t, whose name is a constant.
func (b *builder) global(name string, t api.Thing) api.Value {
	v := b.make(t)
	if !b.full {
		b.scopes.Let(0, name, true)
		b.scopes.Begin(0, name, v)
	}
	return v
}

func (b *builder) make(t api.Thing) api.Value {
	o, ok := b.heap.Make(t)
	if !ok {
		b.full = true // and stays so, since nothing makes room
	}
	return objectValue(o)
}

func (b *builder) function(name string) api.Thing {
	return api.Thing{Kind: api.Function, Proto: objectValue(protoOfFunctions), Extensible: true, Code: b.codes[name]}
}

func plain(proto api.Value) api.Thing {
	return api.Thing{Kind: api.Plain, Proto: proto, Extensible: true}
}

// hidden returns the descriptor of a property that can be changed in every way
// but is not enumerable.
func hidden(v api.Value) api.Desc {
	return api.Desc{
		HasValue: true, Value: v,
		HasWritable: true, Writable: true,
		HasEnumerable:   true,
		HasConfigurable: true, Configurable: true,
	}
}

func nullValue() api.Value { return api.Value{Kind: api.Null} }

func objectValue(o int) api.Value { return api.Value{Kind: api.Object, Num: o} }
