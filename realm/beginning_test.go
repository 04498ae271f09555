package realm

import (
	"slices"

	"understudy/api"
)

// row is an object of the beginning: one without a Code is Plain.
type row struct {
	code   int
	proto  api.Value
	holder int    // the object that has it as a property; none has what is a constant
	name   string // of the property or the constant; the first three have none
}

const noHolder = -1

// beginning has the objects that Build creates, in their order.
func beginning() []row {
	return []row{
		0: {0, null, noHolder, ""},
		1: {0, obj(0), noHolder, ""},
		2: {0, obj(0), noHolder, ""},

		3: {api.CCall, obj(1), 1, "call"},
		4: {api.CBind, obj(1), 1, "bind"},

		5: {api.CProxy, obj(1), noHolder, "Proxy"},
		6: {api.CRevocable, obj(1), 5, "revocable"},

		7:  {0, obj(0), noHolder, "Reflect"},
		8:  {api.CReflect + 1, obj(1), 7, "getPrototypeOf"},
		9:  {api.CReflect + 2, obj(1), 7, "setPrototypeOf"},
		10: {api.CReflect + 3, obj(1), 7, "isExtensible"},
		11: {api.CReflect + 4, obj(1), 7, "preventExtensions"},
		12: {api.CReflect + 5, obj(1), 7, "getOwnPropertyDescriptor"},
		13: {api.CReflect + 6, obj(1), 7, "defineProperty"},
		14: {api.CReflect + 7, obj(1), 7, "has"},
		15: {api.CReflect + 8, obj(1), 7, "get"},
		16: {api.CReflect + 9, obj(1), 7, "set"},
		17: {api.CReflect + 10, obj(1), 7, "deleteProperty"},
		18: {api.CReflect + 11, obj(1), 7, "ownKeys"},
		19: {api.CReflect + 12, obj(1), 7, "apply"},
		20: {api.CReflect + 13, obj(1), 7, "construct"},

		21: {0, obj(0), noHolder, "Object"},
		22: {api.CCreate, obj(1), 21, "create"},
		23: {api.CFreeze, obj(1), 21, "freeze"},
		24: {api.CSeal, obj(1), 21, "seal"},
		25: {api.CFrozen, obj(1), 21, "isFrozen"},
		26: {api.CSealed, obj(1), 21, "isSealed"},
		27: {api.CKeys, obj(1), 21, "keys"},

		28: {api.CSymbol, obj(1), noHolder, "Symbol"},

		29: {0, obj(0), noHolder, "Array"},
		30: {api.CIsArray, obj(1), 29, "isArray"},

		31: {api.CPrint, obj(1), noHolder, "print"},
	}
}

// first returns what there is when the first n objects have been created: the
// objects with their properties, and the constants with their values.
func first(n int) ([]api.Thing, map[string]api.Value) {
	var things []api.Thing
	constants := map[string]api.Value{}
	for o, x := range beginning()[:n] {
		t := api.Thing{Proto: x.proto, Extensible: true}
		if x.code != 0 {
			t.Kind, t.Code = api.Function, x.code
		}
		things = append(things, t)
		if x.holder != noHolder {
			holder := &things[x.holder]
			holder.Props = append(holder.Props, field(x.name, obj(o), "wc"))
		} else if x.name != "" {
			constants[x.name] = obj(o)
		}
	}
	return things, constants
}

// functionsOf returns the numbers of the rows that are functions.
func functionsOf(l []row) []int {
	var functions []int
	for o, x := range l {
		if x.code != 0 {
			functions = append(functions, o)
		}
	}
	return functions
}

// namesToTry are all names of the beginning, and some that mean nothing.
func namesToTry() []string {
	names := []string{
		"", "a", "Function", "Error", "TypeError", "RangeError", "ReferenceError", "SyntaxError", "Boolean", "Number", "String",
		"undefined", "null", "this", "globalThis", "proxy", "revoke", "prototype", "constructor", "length", "name", "toString",
		"reflect", "object", "symbol", "array", "Print", "console", "Reflect.get", "enumerate", "entries", "getOwnPropertyNames",
	}
	for _, x := range beginning() {
		if !slices.Contains(names, x.name) {
			names = append(names, x.name)
		}
	}
	return names
}
