package rules

import (
	"fmt"
	"math"
	"slices"
	"strconv"
	"strings"
	"testing"

	"understudy/api"
	"understudy/desc"
)

func number(n int) api.Value { return api.Value{Kind: api.Number, Num: n} }

func text(s string) api.Value { return api.Value{Kind: api.String, Str: s} }

func object(n int) api.Value { return api.Value{Kind: api.Object, Num: n} }

func null() api.Value { return api.Value{Kind: api.Null} }

func undefined() api.Value { return api.Value{Kind: api.Undefined} }

// data is a whole descriptor; of the letters w, e and c, flags names what it is.
func data(v api.Value, flags string) api.Desc {
	d := flagged(flags)
	d.HasValue, d.Value = true, v
	d.HasWritable, d.Writable = true, strings.Contains(flags, "w")
	return d
}

// accessor is a whole descriptor with functions.
func accessor(get, set api.Value, flags string) api.Desc {
	d := flagged(flags)
	d.HasGet, d.Get = true, get
	d.HasSet, d.Set = true, set
	return d
}

func flagged(flags string) api.Desc {
	return api.Desc{
		HasEnumerable: true, Enumerable: strings.Contains(flags, "e"),
		HasConfigurable: true, Configurable: strings.Contains(flags, "c"),
	}
}

// everyDesc has all combinations of fields, those of both sorts together too.
func everyDesc() []api.Desc {
	list := []api.Desc{{}}
	extend := func(changes ...func(d *api.Desc)) {
		for _, d := range slices.Clone(list) {
			for _, change := range changes {
				x := d
				change(&x)
				list = append(list, x)
			}
		}
	}
	extend(
		func(d *api.Desc) { d.HasValue = true },
		func(d *api.Desc) { d.HasValue, d.Value = true, number(1) },
	)
	extend(
		func(d *api.Desc) { d.HasWritable = true },
		func(d *api.Desc) { d.HasWritable, d.Writable = true, true },
	)
	extend(
		func(d *api.Desc) { d.HasGet = true },
		func(d *api.Desc) { d.HasGet, d.Get = true, object(0) },
	)
	extend(
		func(d *api.Desc) { d.HasSet = true },
		func(d *api.Desc) { d.HasSet, d.Set = true, object(0) },
	)
	extend(
		func(d *api.Desc) { d.HasEnumerable = true },
		func(d *api.Desc) { d.HasEnumerable, d.Enumerable = true, true },
	)
	extend(
		func(d *api.Desc) { d.HasConfigurable = true },
		func(d *api.Desc) { d.HasConfigurable, d.Configurable = true, true },
	)
	return list
}

func everyWhole() []api.Desc {
	return slices.DeleteFunc(everyDesc(), func(d api.Desc) bool { return !desc.Whole(d) })
}

// invalid are descriptors that are not desc.Right.
func invalid() []api.Desc {
	return []api.Desc{
		{HasGet: true, HasValue: true},
		{HasSet: true, HasWritable: true},
		{HasGet: true, Get: number(1)},
		{HasSet: true, Set: null()},
		{Value: number(1)},
		{Writable: true},
		{Get: object(1)},
		{Set: object(1)},
		{Enumerable: true},
		{Configurable: true},
		{HasValue: true, HasConfigurable: true, Configurable: true, Set: object(1)},
		{HasGet: true, HasConfigurable: true, Configurable: true, Writable: true},
	}
}

// targets are what a function is told of the target and a property of it.
type targets struct {
	ext, has bool
	desc     api.Desc
}

// everyTarget has targets without the property too; their descriptors do not
// matter.
func everyTarget() []targets {
	var list []targets
	for _, ext := range []bool{false, true} {
		for _, d := range everyWhole() {
			list = append(list, targets{ext, true, d})
		}
		for _, d := range append(invalid(), api.Desc{}, data(number(1), ""), data(number(1), "wec"), accessor(object(0), object(0), "e")) {
			list = append(list, targets{ext, false, d})
		}
	}
	return list
}

func bothBools(yield func(bool) bool) {
	if yield(false) {
		yield(true)
	}
}

func TestGetProto(t *testing.T) {
	for _, x := range []struct {
		target, told       api.Value
		closed, extensible bool
	}{
		{null(), null(), true, true},
		{object(0), object(0), true, true},
		{object(5), object(5), true, true},
		{null(), object(0), false, true},
		{object(0), null(), false, true},
		{object(0), object(1), false, true},
		{object(1), object(0), false, true},
		{null(), undefined(), false, false},
		{null(), api.Value{Kind: api.Bool, Num: 1}, false, false},
		{object(0), number(0), false, false},
		{object(0), text(""), false, false},
		{object(0), text("null"), false, false},
		{object(1), api.Value{Kind: api.Symbol, Num: 1}, false, false},
		{null(), api.Value{Kind: 7}, false, false},
		{null(), api.Value{Kind: -1}, false, false},
		{null(), api.Value{Kind: math.MinInt}, false, false},
		{null(), api.Value{Kind: math.MaxInt}, false, false},
		// What is told has to be a prototype even where it is the same.
		{undefined(), undefined(), false, false},
		{number(3), number(3), false, false},
		{api.Value{Kind: 7}, api.Value{Kind: 7}, false, false},
	} {
		if got := GetProto(false, x.target, x.told); got != x.closed {
			t.Errorf("P701: GetProto(false, %+v, %+v) = %v", x.target, x.told, got)
		}
		if got := GetProto(true, x.target, x.told); got != x.extensible {
			t.Errorf("P701: GetProto(true, %+v, %+v) = %v", x.target, x.told, got)
		}
	}
}

func TestSetProto(t *testing.T) {
	list := []api.Value{null(), object(0), object(1), object(math.MaxInt), undefined(), number(0), number(1), text(""), {Kind: 7}, {Kind: -1, Num: 1, Str: "a"}}
	for i, target := range list {
		for j, asked := range list {
			if got := SetProto(false, target, asked); got != (i == j) {
				t.Errorf("P701: SetProto(false, %+v, %+v) = %v", target, asked, got)
			}
			if !SetProto(true, target, asked) {
				t.Errorf("P701: SetProto(true, %+v, %+v) = false", target, asked)
			}
		}
	}
}

// TestMissing is about the rules by which a property may be absent: they are
// the same for three functions.
func TestMissing(t *testing.T) {
	check := func(x targets, want bool) {
		t.Helper()
		if got := Has(x.ext, x.has, x.desc); got != want {
			t.Errorf("P701: Has(%v, %v, %+v) = %v", x.ext, x.has, x.desc, got)
		}
		if got := Delete(x.ext, x.has, x.desc); got != want {
			t.Errorf("P701: Delete(%v, %v, %+v) = %v", x.ext, x.has, x.desc, got)
		}
		// What d is does not matter.
		for _, d := range append(invalid(), api.Desc{}, x.desc, data(number(1), "wec"), accessor(undefined(), object(1), "")) {
			if got := GetOwn(x.ext, x.has, x.desc, false, d); got != want {
				t.Errorf("P701: GetOwn(%v, %v, %+v, false, %+v) = %v", x.ext, x.has, x.desc, d, got)
			}
		}
	}
	for _, flags := range []string{"", "w", "e", "we"} {
		for _, d := range []api.Desc{data(number(1), flags), accessor(object(1), undefined(), flags)} {
			check(targets{true, true, d}, false)
			check(targets{false, true, d}, false)
			check(targets{true, false, d}, true)
			check(targets{false, false, d}, true)
			d.Configurable = true
			check(targets{true, true, d}, true)
			check(targets{false, true, d}, false)
			check(targets{true, false, d}, true)
			check(targets{false, false, d}, true)
		}
	}
	for _, x := range everyTarget() {
		check(x, !x.has || x.desc.Configurable && x.ext)
	}
}

func TestGetOwn(t *testing.T) {
	fixed := data(number(1), "e")
	open := data(number(1), "we")
	pair := accessor(object(1), undefined(), "")
	for _, x := range []struct {
		name   string
		target targets
		d      api.Desc
		want   bool
	}{
		{"new", targets{ext: true}, data(number(1), "wec"), true},
		{"new accessor", targets{ext: true}, accessor(object(1), object(2), "c"), true},
		{"new, with a field", targets{ext: true}, api.Desc{HasConfigurable: true, Configurable: true}, true},
		{"new on a closed target", targets{}, data(number(1), "wec"), false},
		{"new, not configurable", targets{ext: true}, data(number(1), "we"), false},
		{"new, not configurable for want of the field", targets{ext: true}, api.Desc{HasValue: true, Value: number(1)}, false},
		{"new, no fields", targets{ext: true}, api.Desc{}, false},
		{"as it is, fixed", targets{has: true, desc: fixed}, fixed, true},
		{"as it is, open", targets{has: true, desc: open}, open, true},
		{"as it is, accessor", targets{has: true, desc: pair}, pair, true},
		{"fields that are missing", targets{has: true, desc: fixed}, api.Desc{HasValue: true, Value: number(1), HasEnumerable: true, Enumerable: true}, true},
		{"not enumerable for want of the field", targets{has: true, desc: fixed}, api.Desc{HasValue: true, Value: number(1)}, false},
		{"undefined for want of the field", targets{has: true, desc: fixed}, api.Desc{HasEnumerable: true, Enumerable: true}, false},
		{"no fields for an accessor", targets{has: true, desc: pair}, api.Desc{}, false},
		{"get alone", targets{has: true, desc: pair}, api.Desc{HasGet: true, Get: object(1)}, true},
		{"set alone", targets{has: true, desc: pair}, api.Desc{HasSet: true}, false},
		{"another value, fixed", targets{has: true, desc: fixed}, data(number(2), "e"), false},
		{"another value, open", targets{has: true, desc: open}, data(number(2), "we"), true},
		{"writable, fixed", targets{has: true, desc: fixed}, data(number(1), "we"), false},
		{"not writable, open", targets{has: true, desc: open}, data(number(1), "e"), false},
		{"not writable, another value, open", targets{has: true, desc: open}, data(number(2), "e"), false},
		{"configurable, fixed", targets{has: true, desc: fixed}, data(number(1), "ec"), false},
		{"configurable, open", targets{has: true, desc: open}, data(number(1), "wec"), false},
		{"configurable accessor", targets{has: true, desc: pair}, accessor(object(1), undefined(), "c"), false},
		{"another get", targets{has: true, desc: pair}, accessor(object(2), undefined(), ""), false},
		{"another set", targets{has: true, desc: pair}, accessor(object(1), object(1), ""), false},
		{"the other sort", targets{has: true, desc: pair}, data(undefined(), ""), false},
		{"the other sort, configurable", targets{has: true, desc: data(number(1), "c")}, accessor(object(1), undefined(), "c"), true},
		{"not configurable, though it is", targets{ext: true, has: true, desc: data(number(1), "wec")}, data(number(1), "we"), false},
		{"not configurable accessor, though it is", targets{ext: true, has: true, desc: accessor(object(1), undefined(), "c")}, pair, false},
		{"anything configurable", targets{has: true, desc: data(number(1), "wec")}, data(text("a"), "c"), true},
	} {
		if got := GetOwn(x.target.ext, x.target.has, x.target.desc, true, x.d); got != x.want {
			t.Errorf("P701: %s: GetOwn(%v, %v, %+v, true, %+v) = %v", x.name, x.target.ext, x.target.has, x.target.desc, x.d, got)
		}
	}
}

// mayBeTold is what the rules for GetOwn come to.
func mayBeTold(x targets, d api.Desc) bool {
	if !desc.Right(d) {
		return false
	}
	c := desc.Complete(d)
	if c.Configurable {
		return !x.has && x.ext || x.has && x.desc.Configurable
	}
	if x.has && x.desc.Writable {
		x.desc.Value = c.Value
	}
	return x.has && c == x.desc
}

func TestGetOwnOfEveryCombination(t *testing.T) {
	var allowed, refused int
	for _, x := range everyTarget() {
		for _, d := range append(everyDesc(), invalid()...) {
			want := mayBeTold(x, d)
			if got := GetOwn(x.ext, x.has, x.desc, true, d); got != want {
				t.Fatalf("P701: GetOwn(%v, %v, %+v, true, %+v) = %v", x.ext, x.has, x.desc, d, got)
			}
			if want {
				allowed++
			} else {
				refused++
			}
		}
	}
	if allowed == 0 || refused == 0 {
		t.Errorf("P701: GetOwn allowed %d and refused %d", allowed, refused)
	}
}

func TestDefine(t *testing.T) {
	fixed := data(number(1), "e")
	open := data(number(1), "we")
	free := data(number(1), "wec")
	pair := accessor(object(1), undefined(), "")
	for _, x := range []struct {
		name   string
		target targets
		asked  api.Desc
		want   bool
	}{
		{"new", targets{ext: true}, data(number(1), "wec"), true},
		{"new accessor", targets{ext: true}, accessor(object(1), object(2), "c"), true},
		{"new, no fields", targets{ext: true}, api.Desc{}, true},
		{"new, not writable", targets{ext: true}, data(number(1), "c"), true},
		{"new, not configurable", targets{ext: true}, data(number(1), "we"), false},
		{"new on a closed target", targets{}, data(number(1), "wec"), false},
		{"new on a closed target, no fields", targets{}, api.Desc{}, false},
		{"as it is, fixed", targets{has: true, desc: fixed}, fixed, true},
		{"as it is, open", targets{has: true, desc: open}, open, true},
		{"as it is, free", targets{has: true, desc: free}, free, true},
		{"as it is, accessor", targets{has: true, desc: pair}, pair, true},
		{"no fields", targets{has: true, desc: fixed}, api.Desc{}, true},
		{"not configurable, free", targets{ext: true, has: true, desc: free}, api.Desc{HasConfigurable: true}, false},
		{"not configurable, open", targets{has: true, desc: open}, api.Desc{HasConfigurable: true}, true},
		{"configurable, free", targets{has: true, desc: free}, api.Desc{HasConfigurable: true, Configurable: true}, true},
		{"configurable, open", targets{has: true, desc: open}, api.Desc{HasConfigurable: true, Configurable: true}, false},
		{"not writable, free", targets{has: true, desc: free}, api.Desc{HasWritable: true}, true},
		{"not writable, open", targets{ext: true, has: true, desc: open}, api.Desc{HasWritable: true}, false},
		{"not writable, fixed", targets{has: true, desc: fixed}, api.Desc{HasWritable: true}, true},
		{"writable, fixed", targets{has: true, desc: fixed}, api.Desc{HasWritable: true, Writable: true}, false},
		{"writable, open", targets{has: true, desc: open}, api.Desc{HasWritable: true, Writable: true}, true},
		{"another value, open", targets{has: true, desc: open}, api.Desc{HasValue: true, Value: number(2)}, true},
		{"another value, fixed", targets{has: true, desc: fixed}, api.Desc{HasValue: true, Value: number(2)}, false},
		{"the same value, fixed", targets{has: true, desc: fixed}, api.Desc{HasValue: true, Value: number(1)}, true},
		{"not enumerable, fixed", targets{has: true, desc: fixed}, api.Desc{HasEnumerable: true}, false},
		{"another get", targets{has: true, desc: pair}, api.Desc{HasGet: true, Get: object(2)}, false},
		{"the same get", targets{has: true, desc: pair}, api.Desc{HasGet: true, Get: object(1)}, true},
		{"a set", targets{has: true, desc: pair}, api.Desc{HasSet: true, Set: object(1)}, false},
		{"data for an accessor", targets{has: true, desc: pair}, api.Desc{HasWritable: true}, false},
		{"an accessor for data", targets{has: true, desc: open}, api.Desc{HasGet: true}, false},
		{"an accessor for free data", targets{has: true, desc: free}, api.Desc{HasGet: true, Get: object(1)}, true},
		{"data for a free accessor", targets{has: true, desc: accessor(object(1), object(1), "c")}, api.Desc{HasWritable: true}, true},
	} {
		if got := Define(x.target.ext, x.target.has, x.target.desc, x.asked); got != x.want {
			t.Errorf("P701: %s: Define(%v, %v, %+v, %+v) = %v", x.name, x.target.ext, x.target.has, x.target.desc, x.asked, got)
		}
	}
}

// mayBeDefined is what the rules for Define come to.
func mayBeDefined(x targets, asked api.Desc) bool {
	switch {
	case !desc.Right(asked):
		return false
	case !x.has && !x.ext:
		return false
	case !x.has || x.desc.Configurable:
		return !asked.HasConfigurable || asked.Configurable
	}
	now := x.desc
	return (!asked.HasConfigurable || !asked.Configurable) &&
		(!asked.HasEnumerable || asked.Enumerable == now.Enumerable) &&
		(!asked.HasWritable || now.HasWritable && asked.Writable == now.Writable) &&
		(!asked.HasValue || now.HasValue && (now.Writable || asked.Value == now.Value)) &&
		(!asked.HasGet || now.HasGet && asked.Get == now.Get) &&
		(!asked.HasSet || now.HasSet && asked.Set == now.Set)
}

func TestDefineOfEveryCombination(t *testing.T) {
	var allowed, refused int
	for _, x := range everyTarget() {
		for _, asked := range append(everyDesc(), invalid()...) {
			want := mayBeDefined(x, asked)
			if got := Define(x.ext, x.has, x.desc, asked); got != want {
				t.Fatalf("P701: Define(%v, %v, %+v, %+v) = %v", x.ext, x.has, x.desc, asked, got)
			}
			if want {
				allowed++
			} else {
				refused++
			}
		}
	}
	if allowed == 0 || refused == 0 {
		t.Errorf("P701: Define allowed %d and refused %d", allowed, refused)
	}
}

func TestInvalidDescriptorsAreRefused(t *testing.T) {
	for _, x := range everyTarget() {
		for _, d := range invalid() {
			if GetOwn(x.ext, x.has, x.desc, true, d) {
				t.Errorf("P701: GetOwn(%v, %v, %+v, true, %+v) = true", x.ext, x.has, x.desc, d)
			}
			if Define(x.ext, x.has, x.desc, d) {
				t.Errorf("P701: Define(%v, %v, %+v, %+v) = true", x.ext, x.has, x.desc, d)
			}
		}
	}
}

func TestGetAndSetOfFixedProperties(t *testing.T) {
	for _, x := range []struct {
		name     string
		target   api.Desc
		value    api.Value
		get, set bool
	}{
		{"the same number", data(number(1), ""), number(1), true, true},
		{"another number", data(number(1), ""), number(2), false, false},
		{"a string for a number", data(number(1), "e"), text("1"), false, false},
		{"another string", data(text("a"), ""), text("b"), false, false},
		{"the same string", data(text("a"), ""), text("a"), true, true},
		{"another object", data(object(1), ""), object(2), false, false},
		{"the same object", data(object(1), "e"), object(1), true, true},
		{"undefined for null", data(null(), ""), undefined(), false, false},
		{"undefined", data(undefined(), ""), undefined(), true, true},
		{"null for undefined", data(undefined(), ""), null(), false, false},
		{"an unknown kind", data(number(1), ""), api.Value{Kind: 7, Num: 1}, false, false},
		{"writable: the same", data(number(1), "w"), number(1), true, true},
		{"writable: another number", data(number(1), "w"), number(2), true, true},
		{"writable: undefined", data(number(1), "we"), undefined(), true, true},
		{"functions", accessor(object(1), object(2), ""), number(1), true, true},
		{"functions: undefined", accessor(object(1), object(2), "e"), undefined(), true, true},
		{"get alone", accessor(object(1), undefined(), ""), number(1), true, false},
		{"get alone: undefined", accessor(object(1), undefined(), ""), undefined(), true, false},
		{"set alone", accessor(undefined(), object(1), ""), number(1), false, true},
		{"set alone: null", accessor(undefined(), object(1), ""), null(), false, true},
		{"set alone: undefined", accessor(undefined(), object(1), "e"), undefined(), true, true},
		{"object 0 is a function", accessor(object(0), object(0), ""), number(1), true, true},
		{"no functions", accessor(undefined(), undefined(), ""), number(1), false, false},
		{"no functions: an unknown kind", accessor(undefined(), undefined(), ""), api.Value{Kind: 7}, false, false},
		{"no functions: undefined", accessor(undefined(), undefined(), ""), undefined(), true, false},
	} {
		if got := Get(true, x.target, x.value); got != x.get {
			t.Errorf("P701: %s: Get(true, %+v, %+v) = %v", x.name, x.target, x.value, got)
		}
		if got := Set(true, x.target, x.value); got != x.set {
			t.Errorf("P701: %s: Set(true, %+v, %+v) = %v", x.name, x.target, x.value, got)
		}
		free := x.target
		free.Configurable = true
		if !Get(true, free, x.value) || !Set(true, free, x.value) {
			t.Errorf("P701: %s: of the configurable %+v and %+v, Get is %v and Set %v", x.name, free, x.value, Get(true, free, x.value), Set(true, free, x.value))
		}
		if !Get(false, x.target, x.value) || !Set(false, x.target, x.value) {
			t.Errorf("P701: %s: without the property, of %+v, Get is %v and Set %v", x.name, x.value, Get(false, x.target, x.value), Set(false, x.target, x.value))
		}
	}
}

// entries are properties with these names: those with a mark behind them are
// not configurable, and those that are numbers behind @ are symbols.
func entries(names string) []api.Entry {
	var l []api.Entry
	for _, name := range strings.Fields(names) {
		flags := "wec"
		if strings.HasSuffix(name, "!") {
			flags = "we"
		}
		l = append(l, api.Entry{Key: key(strings.TrimSuffix(name, "!")), Desc: data(number(len(l)), flags)})
	}
	return l
}

func keysOf(names string) []api.Key {
	var l []api.Key
	for _, name := range strings.Fields(names) {
		l = append(l, key(name))
	}
	return l
}

func key(name string) api.Key {
	if n, err := strconv.Atoi(strings.TrimPrefix(name, "@")); err == nil && name[0] == '@' {
		return api.Key{Sym: n}
	}
	return api.Key{Str: name}
}

func TestKeys(t *testing.T) {
	for _, x := range []struct {
		target, told       string
		closed, extensible bool
	}{
		{"", "", true, true},
		{"", "a", false, true},
		{"", "a b @1", false, true},
		{"a", "a", true, true},
		{"a!", "a", true, true},
		{"a", "", false, true},
		{"a!", "", false, false},
		{"a", "b", false, true},
		{"a!", "b", false, false},
		{"a!", "b a", false, true},
		{"a b", "b a", true, true},
		{"a! b! 1! @1!", "@1 b 1 a", true, true},
		{"a! b! 1! @1!", "@1 b a", false, false},
		{"a b! 1 @1!", "@1 b", false, true},
		{"a b! 1 @1!", "b 1 a", false, false},
		{"a b! 1 @1!", "@1 1 a", false, false},
		{"a b c", "a b", false, true},
		{"a b", "a b c", false, true},
		{"a b", "a c", false, true},
		{"", "a a", false, false},
		{"a", "a a", false, false},
		{"a b", "a a", false, false},
		{"a! b", "b a b", false, false},
		{"a b c", "a b b c", false, false},
		{"a", "@1 @1", false, false},
		{"@1 @2", "@2 @1", true, true},
		{"@1!", "@2", false, false},
		// A string is no symbol, and 01 is not 1.
		{"1!", "@1", false, false},
		{"@1!", "1", false, false},
		{"1 @1", "@1 1", true, true},
		{"1!", "01", false, false},
		{"1", "1 01", false, true},
		{"a!", "A", false, false},
		{"a", "a A", false, true},
	} {
		if got := Keys(false, entries(x.target), keysOf(x.told)); got != x.closed {
			t.Errorf("P701: Keys(false, %q, %q) = %v", x.target, x.told, got)
		}
		if got := Keys(true, entries(x.target), keysOf(x.told)); got != x.extensible {
			t.Errorf("P701: Keys(true, %q, %q) = %v", x.target, x.told, got)
		}
	}
}

func TestKeysComparesAllFields(t *testing.T) {
	mixed := api.Key{Str: "a", Sym: 1}
	l := []api.Entry{{Key: mixed, Desc: data(number(1), "")}}
	for _, x := range []struct {
		told               []api.Key
		closed, extensible bool
	}{
		{[]api.Key{mixed}, true, true},
		{[]api.Key{{Sym: 1}}, false, false},
		{[]api.Key{{Str: "a"}}, false, false},
		{[]api.Key{{Str: "a"}, mixed, {Sym: 1}, {Sym: -1}}, false, true},
		{[]api.Key{mixed, {Str: "b"}, mixed}, false, false},
	} {
		if got := Keys(false, l, x.told); got != x.closed {
			t.Errorf("P701: Keys(false, %+v, %+v) = %v", l, x.told, got)
		}
		if got := Keys(true, l, x.told); got != x.extensible {
			t.Errorf("P701: Keys(true, %+v, %+v) = %v", l, x.told, got)
		}
	}
}

func TestKeysOfTargetsWithAKeyTwice(t *testing.T) {
	for _, x := range []struct {
		target, told       string
		closed, extensible bool
	}{
		{"a a", "a", true, true},
		{"a a", "", false, true},
		{"a a", "a a", false, false},
		{"a a", "a b", false, true},
		{"a a!", "", false, false},
		{"a! a", "", false, false},
		{"a! a", "a", true, true},
		{"a b a", "b a", true, true},
		{"a b a", "b a c", false, true},
	} {
		if got := Keys(false, entries(x.target), keysOf(x.told)); got != x.closed {
			t.Errorf("P701: Keys(false, %q, %q) = %v", x.target, x.told, got)
		}
		if got := Keys(true, entries(x.target), keysOf(x.told)); got != x.extensible {
			t.Errorf("P701: Keys(true, %q, %q) = %v", x.target, x.told, got)
		}
	}
}

// everyList returns all lists of at most n of the elements of pool.
func everyList[T any](pool []T, n int) [][]T {
	lists := [][]T{nil}
	for from := 0; n > 0; n-- {
		end := len(lists)
		for _, l := range lists[from:end] {
			for _, x := range pool {
				lists = append(lists, append(slices.Clone(l), x))
			}
		}
		from = end
	}
	return lists
}

// mayBeKeys follows the rules for Keys one after the other.
func mayBeKeys(ext bool, target []api.Entry, told []api.Key) bool {
	for i, k := range told {
		if slices.Contains(told[:i], k) {
			return false
		}
	}
	for _, e := range target {
		if !e.Desc.Configurable && !slices.Contains(told, e.Key) {
			return false
		}
	}
	if ext {
		return true
	}
	for _, k := range told {
		if !slices.ContainsFunc(target, func(e api.Entry) bool { return e.Key == k }) {
			return false
		}
	}
	for _, e := range target {
		if !slices.Contains(told, e.Key) {
			return false
		}
	}
	return true
}

func TestKeysOfAllShortLists(t *testing.T) {
	toldLists := everyList(keysOf("a b 0 @1"), 4)
	var allowed, refused int
	for _, target := range everyList(entries("a a! b 0! @1"), 3) {
		for _, told := range toldLists {
			for ext := range bothBools {
				want := mayBeKeys(ext, target, told)
				if got := Keys(ext, target, told); got != want {
					t.Fatalf("P701: Keys(%v, %+v, %+v) = %v", ext, target, told, got)
				}
				if want {
					allowed++
				} else {
					refused++
				}
			}
		}
	}
	if allowed == 0 || refused == 0 {
		t.Errorf("P701: Keys allowed %d and refused %d", allowed, refused)
	}
}

func TestKeysOfLongLists(t *testing.T) {
	var target []api.Entry
	var told []api.Key
	for i := range 50000 {
		k := api.Key{Str: strconv.Itoa(i * 7919 % 50000)}
		target = append(target, api.Entry{Key: k, Desc: data(number(i), "c")})
		told = append(told, k)
	}
	slices.Reverse(told)
	last := len(told) - 1
	if !Keys(false, target, told) || !Keys(true, target, told) {
		t.Error("P701: Keys refuses 50000 keys as they are")
	}
	if Keys(false, target, told[:last]) || !Keys(true, target, told[:last]) {
		t.Error("P701: Keys without one of 50000: allowed if closed, or refused if extensible")
	}
	if Keys(true, target, append(slices.Clone(told), told[0])) {
		t.Error("P701: Keys allows 50000 keys and one of them again")
	}
	target[0].Desc.Configurable = false
	if Keys(true, target, told[:last]) {
		t.Error("P701: Keys allows the lack of one of 50000 that is not configurable")
	}
}

// TestTheTargetsOwnResultsAreAllowed is about a handler that does what the
// target does.
func TestTheTargetsOwnResultsAreAllowed(t *testing.T) {
	for _, x := range everyTarget() {
		if !x.has {
			if !GetOwn(x.ext, false, x.desc, false, api.Desc{}) || !Has(x.ext, false, x.desc) || !Delete(x.ext, false, x.desc) {
				t.Errorf("P701: a property that the target (extensible: %v) does not have is not allowed to be missing", x.ext)
			}
			continue
		}
		if !GetOwn(x.ext, true, x.desc, true, x.desc) || !Define(x.ext, true, x.desc, x.desc) {
			t.Errorf("P701: %+v itself is refused", x.desc)
		}
		if !Get(true, x.desc, x.desc.Value) {
			t.Errorf("P701: the value of %+v itself is refused", x.desc)
		}
	}
	for _, l := range everyList(entries("a b! 0 @1!"), 2) {
		var told []api.Key
		for _, e := range l {
			if !slices.Contains(told, e.Key) {
				told = append(told, e.Key)
			}
		}
		if !Keys(false, l, told) || !Keys(true, l, told) {
			t.Errorf("P701: Keys refuses the keys of %+v", l)
		}
	}
}

// TestWhatWasDefinedIsAllowed is about a handler that defines on the target
// what it is asked to.
func TestWhatWasDefinedIsAllowed(t *testing.T) {
	for _, x := range everyTarget() {
		for _, asked := range everyDesc() {
			now, ok := desc.Apply(x.ext, asked, x.has, x.desc)
			if !ok {
				continue
			}
			if !Define(x.ext, true, now, asked) {
				t.Fatalf("P701: Define(%v, true, %+v, %+v) = false, after it was applied", x.ext, now, asked)
			}
		}
	}
}

func TestKeysLeavesArgumentsAlone(t *testing.T) {
	for ext := range bothBools {
		wholeTarget := entries("b a! 0 @1 c d! e")
		wholeTold := keysOf("a 0 @1 b e d c")
		target, told := slices.Clone(wholeTarget), slices.Clone(wholeTold)
		if !Keys(ext, target[:4], told[:4]) {
			t.Fatalf("P702: Keys(%v, ..) refuses the first four", ext)
		}
		if !slices.Equal(target, wholeTarget) || !slices.Equal(told, wholeTold) {
			t.Fatalf("P702: Keys changed its arguments to %+v and %+v", target, told)
		}
	}
}

func TestResultsDependOnlyOnArguments(t *testing.T) {
	descs := append(everyWhole(), invalid()...)
	targetLists, toldLists := everyList(entries("a b! @1"), 2), everyList(keysOf("a b @1"), 3)
	calls := func(x targets) string {
		var out []bool
		for i, d := range descs {
			v, w := number(i%3), object(i%2)
			out = append(out, GetOwn(x.ext, x.has, x.desc, i%5 > 0, d), Define(x.ext, x.has, x.desc, d))
			out = append(out, Get(x.has, x.desc, v), Set(x.has, x.desc, v), GetProto(x.ext, object(0), w), SetProto(x.ext, object(0), w))
		}
		for i, l := range targetLists {
			out = append(out, Keys(x.ext, l, toldLists[i%len(toldLists)]))
		}
		return fmt.Sprint(append(out, Has(x.ext, x.has, x.desc), Delete(x.ext, x.has, x.desc)))
	}
	var first []string
	list := everyTarget()
	for _, x := range list {
		first = append(first, calls(x))
	}
	for i, x := range slices.Backward(list) {
		if again := calls(x); again != first[i] {
			t.Fatalf("P702: of %+v: %s, then %s", x, first[i], again)
		}
	}
}

func TestExample(t *testing.T) {
	for _, x := range everyTarget() {
		if !x.has && !Has(x.ext, false, x.desc) {
			t.Errorf("P701: Has(%v, false, %+v) = false", x.ext, x.desc)
		}
	}
}
