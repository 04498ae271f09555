package desc

import (
	"fmt"
	"maps"
	"math"
	"slices"
	"testing"

	"understudy/api"
)

func number(n int) api.Value { return api.Value{Kind: api.Number, Num: n} }

func text(s string) api.Value { return api.Value{Kind: api.String, Str: s} }

func object(n int) api.Value { return api.Value{Kind: api.Object, Num: n} }

func undefined() api.Value { return api.Value{Kind: api.Undefined} }

func boolean(b bool) api.Value {
	if b {
		return api.Value{Kind: api.Bool, Num: 1}
	}
	return api.Value{Kind: api.Bool}
}

// fields are those that a descriptor has, by their names. The descriptors of
// the tests are written as fields, and the chapter is followed on fields.
type fields map[string]api.Value

func (f fields) has(name string) bool {
	_, ok := f[name]
	return ok
}

func (f fields) accessor() bool { return f.has("get") || f.has("set") }

func (f fields) data() bool { return f.has("value") || f.has("writable") }

func (f fields) isTrue(name string) bool { return f[name] == boolean(true) }

// desc is the descriptor that has exactly these fields.
func (f fields) desc() api.Desc {
	return api.Desc{
		HasValue: f.has("value"), Value: f["value"],
		HasWritable: f.has("writable"), Writable: f.isTrue("writable"),
		HasGet: f.has("get"), Get: f["get"],
		HasSet: f.has("set"), Set: f["set"],
		HasEnumerable: f.has("enumerable"), Enumerable: f.isTrue("enumerable"),
		HasConfigurable: f.has("configurable"), Configurable: f.isTrue("configurable"),
	}
}

// with is f with the fields that it lacks added from g.
func (f fields) with(g fields) fields {
	out := maps.Clone(g)
	maps.Copy(out, f)
	return out
}

func (f fields) right() bool {
	for _, name := range []string{"get", "set"} {
		if kind := f[name].Kind; kind != api.Undefined && kind != api.Object {
			return false
		}
	}
	return !f.accessor() || !f.data()
}

func (f fields) whole() bool {
	if !f.right() || !f.has("enumerable") || !f.has("configurable") {
		return false
	}
	return f.has("value") && f.has("writable") || f.has("get") && f.has("set")
}

func (f fields) complete() fields {
	no := boolean(false)
	if f.accessor() {
		return f.with(fields{"get": undefined(), "set": undefined(), "enumerable": no, "configurable": no})
	}
	return f.with(fields{"value": undefined(), "writable": no, "enumerable": no, "configurable": no})
}

// refusal is the number of the first case of P502 that applies, or 0.
func refusal(ext bool, d fields, has bool, now fields) int {
	differs := func(name string) bool { return d.has(name) && d[name] != now[name] }
	fixed := !now.isTrue("configurable")
	switch {
	case !d.right() || has && !now.whole():
		return 1
	case !has && !ext:
		return 2
	case !has:
		return 0
	case fixed && (d.isTrue("configurable") || differs("enumerable")):
		return 3
	case d.data() && now.data() && fixed && !now.isTrue("writable") && (d.isTrue("writable") || differs("value")):
		return 4
	case d.accessor() && now.accessor() && fixed && (differs("get") || differs("set")):
		return 5
	case (d.data() && now.accessor() || d.accessor() && now.data()) && fixed:
		return 6
	}
	return 0
}

// applied is the result of P502 where no case refuses.
func applied(d fields, has bool, now fields) fields {
	if !has {
		return d.complete()
	}
	kept := fields{"enumerable": now["enumerable"], "configurable": now["configurable"]}
	switch {
	case d.data() && now.accessor():
		return d.with(kept).complete()
	case d.accessor() && now.data():
		return d.with(kept).complete()
	}
	return d.with(now)
}

// everyDesc has all combinations of fields, valid or not.
func everyDesc() []fields {
	bools := []api.Value{boolean(false), boolean(true)}
	functions := []api.Value{undefined(), object(0), object(1)}
	list := []fields{{}}
	for _, x := range []struct {
		name string
		pool []api.Value
	}{
		{"value", []api.Value{undefined(), number(1), text("1")}},
		{"writable", bools},
		{"get", functions},
		{"set", functions},
		{"enumerable", bools},
		{"configurable", bools},
	} {
		for _, f := range slices.Clone(list) {
			for _, v := range x.pool {
				list = append(list, f.with(fields{x.name: v}))
			}
		}
	}
	return list
}

func everyWhole() []fields {
	return slices.DeleteFunc(everyDesc(), func(f fields) bool { return !f.whole() })
}

// filled are versions of d with one of the fields that it does not have not
// zero, by the name of that field.
func filled(d api.Desc) map[string]api.Desc {
	out := map[string]api.Desc{}
	put := func(name string, has bool, change func(x *api.Desc)) {
		if !has {
			x := d
			change(&x)
			out[name] = x
		}
	}
	put("value", d.HasValue, func(x *api.Desc) { x.Value = number(0) })
	put("value's text", d.HasValue, func(x *api.Desc) { x.Value.Str = "a" })
	put("value's number", d.HasValue, func(x *api.Desc) { x.Value.Num = -1 })
	put("writable", d.HasWritable, func(x *api.Desc) { x.Writable = true })
	put("get", d.HasGet, func(x *api.Desc) { x.Get = object(0) })
	put("get's number", d.HasGet, func(x *api.Desc) { x.Get.Num = 1 })
	put("set", d.HasSet, func(x *api.Desc) { x.Set = object(0) })
	put("set's text", d.HasSet, func(x *api.Desc) { x.Set.Str = "a" })
	put("enumerable", d.HasEnumerable, func(x *api.Desc) { x.Enumerable = true })
	put("configurable", d.HasConfigurable, func(x *api.Desc) { x.Configurable = true })
	return out
}

// data is a whole descriptor of a data property.
func data(value api.Value, writable, enumerable, configurable bool) api.Desc {
	return api.Desc{HasValue: true, Value: value, HasWritable: true, Writable: writable, HasEnumerable: true, Enumerable: enumerable, HasConfigurable: true, Configurable: configurable}
}

// accessor is a whole descriptor of an accessor.
func accessor(get, set api.Value, enumerable, configurable bool) api.Desc {
	return api.Desc{HasGet: true, Get: get, HasSet: true, Set: set, HasEnumerable: true, Enumerable: enumerable, HasConfigurable: true, Configurable: configurable}
}

func TestSorts(t *testing.T) {
	for _, x := range []struct {
		name           string
		desc           api.Desc
		accessor, data bool
	}{
		{"nothing", api.Desc{}, false, false},
		{"value", api.Desc{HasValue: true}, false, true},
		{"writable", api.Desc{HasWritable: true}, false, true},
		{"value and writable", api.Desc{HasValue: true, HasWritable: true}, false, true},
		{"get", api.Desc{HasGet: true}, true, false},
		{"set", api.Desc{HasSet: true}, true, false},
		{"get and set", api.Desc{HasGet: true, HasSet: true}, true, false},
		{"get and value", api.Desc{HasGet: true, HasValue: true}, true, true},
		{"set and writable", api.Desc{HasSet: true, HasWritable: true}, true, true},
		{"enumerable and configurable", api.Desc{HasEnumerable: true, Enumerable: true, HasConfigurable: true, Configurable: true}, false, false},
		{"contents without flags", api.Desc{Value: number(1), Writable: true, Get: object(1), Set: object(1)}, false, false},
	} {
		if Accessor(x.desc) != x.accessor || Data(x.desc) != x.data {
			t.Errorf("P501: with %s, Accessor is %v and Data %v", x.name, Accessor(x.desc), Data(x.desc))
		}
	}
	for _, f := range everyDesc() {
		if d := f.desc(); Accessor(d) != f.accessor() || Data(d) != f.data() {
			t.Fatalf("P501: of %+v, Accessor is %v and Data %v", d, Accessor(d), Data(d))
		}
	}
}

func TestRightAndWholeOfEveryCombination(t *testing.T) {
	for _, f := range everyDesc() {
		d := f.desc()
		if Right(d) != f.right() {
			t.Fatalf("P501: Right(%+v) = %v", d, Right(d))
		}
		if Whole(d) != f.whole() {
			t.Fatalf("P501: Whole(%+v) = %v", d, Whole(d))
		}
	}
}

func TestRightWantsFieldsItHasNotToBeZero(t *testing.T) {
	for _, f := range everyDesc() {
		for name, d := range filled(f.desc()) {
			if Right(d) || Whole(d) {
				t.Fatalf("P501: with a %s that it does not have, %+v is right (%v) or whole (%v)", name, d, Right(d), Whole(d))
			}
		}
	}
}

func TestRightTakesUndefinedAndObjectsAsFunctions(t *testing.T) {
	for _, x := range []struct {
		value api.Value
		want  bool
	}{
		{undefined(), true},
		{object(0), true},
		{object(7), true},
		{object(math.MaxInt), true},
		{api.Value{Kind: api.Null}, false},
		{boolean(false), false},
		{boolean(true), false},
		{number(0), false},
		{number(6), false},
		{text(""), false},
		{text("a"), false},
		{api.Value{Kind: api.Symbol, Num: 1}, false},
		{api.Value{Kind: 7}, false},
		{api.Value{Kind: -1}, false},
		{api.Value{Kind: math.MinInt}, false},
		// The kind alone counts.
		{object(-1), true},
		{api.Value{Kind: api.Undefined, Num: 1}, true},
	} {
		other := object(3)
		for _, d := range []api.Desc{
			{HasGet: true, Get: x.value},
			{HasSet: true, Set: x.value},
			{HasGet: true, Get: x.value, HasSet: true, Set: other},
			{HasGet: true, Get: other, HasSet: true, Set: x.value},
			accessor(x.value, other, true, false),
			accessor(other, x.value, false, true),
		} {
			if Right(d) != x.want {
				t.Errorf("P501: Right(%+v) = %v", d, Right(d))
			}
		}
		if d := accessor(x.value, x.value, false, false); Whole(d) != x.want {
			t.Errorf("P501: Whole(%+v) = %v", d, Whole(d))
		}
	}
}

func TestRightTakesAnyValue(t *testing.T) {
	for _, v := range []api.Value{undefined(), {Kind: api.Null}, boolean(true), number(-5), text("a"), {Kind: api.Symbol, Num: 2}, object(4)} {
		if d := (api.Desc{HasValue: true, Value: v}); !Right(d) {
			t.Errorf("P501: Right(%+v) = false", d)
		}
		if d := data(v, true, true, true); !Whole(d) {
			t.Errorf("P501: Whole(%+v) = false", d)
		}
	}
}

func TestComplete(t *testing.T) {
	for _, x := range []struct{ desc, want api.Desc }{
		{api.Desc{}, data(undefined(), false, false, false)},
		{api.Desc{HasValue: true, Value: number(5)}, data(number(5), false, false, false)},
		{api.Desc{HasWritable: true, Writable: true}, data(undefined(), true, false, false)},
		{api.Desc{HasEnumerable: true, Enumerable: true}, data(undefined(), false, true, false)},
		{api.Desc{HasConfigurable: true, Configurable: true}, data(undefined(), false, false, true)},
		{api.Desc{HasGet: true}, accessor(undefined(), undefined(), false, false)},
		{api.Desc{HasGet: true, Get: object(2)}, accessor(object(2), undefined(), false, false)},
		{api.Desc{HasSet: true, Set: object(2)}, accessor(undefined(), object(2), false, false)},
		{api.Desc{HasSet: true, Set: object(2), HasEnumerable: true, Enumerable: true}, accessor(undefined(), object(2), true, false)},
		{api.Desc{HasGet: true, Get: object(2), HasConfigurable: true, Configurable: true}, accessor(object(2), undefined(), false, true)},
	} {
		if got := Complete(x.desc); got != x.want {
			t.Errorf("P501: Complete(%+v) = %+v, want %+v", x.desc, got, x.want)
		}
	}
}

func TestCompleteOfEveryCombination(t *testing.T) {
	for _, f := range everyDesc() {
		d, want := f.desc(), f.complete().desc()
		got := Complete(d)
		if got != want {
			t.Fatalf("P501: Complete(%+v) = %+v, want %+v", d, got, want)
		}
		if Whole(got) != Right(d) {
			t.Fatalf("P501: of %+v, which is right: %v, Complete is whole: %v", d, Right(d), Whole(got))
		}
		if Complete(got) != got {
			t.Fatalf("P501: Complete(%+v) = %+v, which is complete", got, Complete(got))
		}
	}
}

func TestCompleteAddsFieldsAnew(t *testing.T) {
	d := api.Desc{Value: number(1), Writable: true, Enumerable: true, Configurable: true}
	if got := Complete(d); got != data(undefined(), false, false, false) {
		t.Errorf("P501: Complete(%+v) = %+v", d, got)
	}
	d = api.Desc{HasSet: true, Set: object(1), Get: object(2), Enumerable: true, Configurable: true}
	if got := Complete(d); got != accessor(undefined(), object(1), false, false) {
		t.Errorf("P501: Complete(%+v) = %+v", d, got)
	}
	d = api.Desc{HasGet: true, Get: object(2), Set: object(1)}
	if got := Complete(d); got != accessor(object(2), undefined(), false, false) {
		t.Errorf("P501: Complete(%+v) = %+v", d, got)
	}
}

func TestApplyToNewProperties(t *testing.T) {
	for _, d := range []api.Desc{
		{},
		{HasValue: true, Value: number(1)},
		{HasGet: true, Get: object(1)},
		{HasEnumerable: true, Enumerable: true},
		data(number(1), true, true, true),
		accessor(undefined(), object(1), false, false),
	} {
		// What now is does not matter.
		for _, now := range []api.Desc{{}, {Writable: true}, {HasGet: true, HasValue: true}, data(number(2), false, true, false)} {
			if got, ok := Apply(true, d, false, now); !ok || got != Complete(d) {
				t.Errorf("P502: Apply(true, %+v, false, %+v) = %+v, %v, want Complete of the first", d, now, got, ok)
			}
			if got, ok := Apply(false, d, false, now); ok || got != (api.Desc{}) {
				t.Errorf("P502: Apply(false, %+v, false, %+v) = %+v, %v, want none", d, now, got, ok)
			}
		}
	}
}

func TestApplyToPropertiesThatAreThere(t *testing.T) {
	fixed := data(number(1), false, false, false)
	open := data(number(1), true, false, false)
	free := data(number(1), false, true, true)
	pair := accessor(object(1), undefined(), true, false)
	freePair := accessor(object(1), object(2), true, true)
	for _, x := range []struct {
		name    string
		d, now  api.Desc
		want    api.Desc
		allowed bool
	}{
		{"no fields, data", api.Desc{}, fixed, fixed, true},
		{"no fields, accessor", api.Desc{}, pair, pair, true},
		{"the same, data", fixed, fixed, fixed, true},
		{"the same, accessor", pair, pair, pair, true},
		{"case 3: configurable", api.Desc{HasConfigurable: true, Configurable: true}, open, api.Desc{}, false},
		{"case 3: not configurable", api.Desc{HasConfigurable: true}, open, open, true},
		{"case 3: enumerable", api.Desc{HasEnumerable: true, Enumerable: true}, open, api.Desc{}, false},
		{"case 3: not enumerable", api.Desc{HasEnumerable: true}, pair, api.Desc{}, false},
		{"case 3: enumerable, as before", api.Desc{HasEnumerable: true, Enumerable: true}, pair, pair, true},
		{"case 4: writable", api.Desc{HasWritable: true, Writable: true}, fixed, api.Desc{}, false},
		{"case 4: not writable", api.Desc{HasWritable: true}, fixed, fixed, true},
		{"case 4: another number", api.Desc{HasValue: true, Value: number(2)}, fixed, api.Desc{}, false},
		{"case 4: another kind", api.Desc{HasValue: true, Value: api.Value{Kind: api.Symbol, Num: 1}}, fixed, api.Desc{}, false},
		{"case 4: the same value", api.Desc{HasValue: true, Value: number(1)}, fixed, fixed, true},
		{"still writable: another value", api.Desc{HasValue: true, Value: number(2)}, open, data(number(2), true, false, false), true},
		{"still writable: no more", api.Desc{HasWritable: true}, open, fixed, true},
		{"still writable: both", api.Desc{HasValue: true, Value: text("a"), HasWritable: true}, open, data(text("a"), false, false, false), true},
		{"case 5: another get", api.Desc{HasGet: true, Get: object(2)}, pair, api.Desc{}, false},
		{"case 5: no get", api.Desc{HasGet: true}, pair, api.Desc{}, false},
		{"case 5: a set", api.Desc{HasSet: true, Set: object(1)}, pair, api.Desc{}, false},
		{"case 5: the same get", api.Desc{HasGet: true, Get: object(1)}, pair, pair, true},
		{"case 5: the same set", api.Desc{HasSet: true}, pair, pair, true},
		{"case 6: data for an accessor", api.Desc{HasWritable: true}, pair, api.Desc{}, false},
		{"case 6: an accessor for data", api.Desc{HasGet: true}, fixed, api.Desc{}, false},
		{"case 6: an accessor for writable data", api.Desc{HasSet: true, Set: object(1)}, open, api.Desc{}, false},
		{"configurable: another value", api.Desc{HasValue: true, Value: number(2)}, free, data(number(2), false, true, true), true},
		{"configurable: writable", api.Desc{HasWritable: true, Writable: true}, free, data(number(1), true, true, true), true},
		{"configurable: not enumerable", api.Desc{HasEnumerable: true}, free, data(number(1), false, false, true), true},
		{"configurable: no more", api.Desc{HasConfigurable: true}, free, data(number(1), false, true, false), true},
		{"configurable: no get", api.Desc{HasGet: true}, freePair, accessor(undefined(), object(2), true, true), true},
		{"configurable: another set", api.Desc{HasSet: true, Set: object(3)}, freePair, accessor(object(1), object(3), true, true), true},
		{"converted to a get", api.Desc{HasGet: true, Get: object(3)}, free, accessor(object(3), undefined(), true, true), true},
		{"converted to a set", api.Desc{HasSet: true, HasConfigurable: true}, free, accessor(undefined(), undefined(), true, false), true},
		{"converted to a value", api.Desc{HasValue: true, Value: number(3)}, freePair, data(number(3), false, true, true), true},
		{"converted to writable", api.Desc{HasWritable: true, Writable: true, HasEnumerable: true}, freePair, data(undefined(), true, false, true), true},
	} {
		for _, ext := range []bool{false, true} {
			if got, ok := Apply(ext, x.d, true, x.now); got != x.want || ok != x.allowed {
				t.Errorf("P502: %s: Apply(%v, %+v, true, %+v) = %+v, %v, want %+v, %v", x.name, ext, x.d, x.now, got, ok, x.want, x.allowed)
			}
		}
	}
}

func TestApplyRefusesInvalidDescriptors(t *testing.T) {
	now := data(number(1), true, true, true)
	for _, d := range []api.Desc{
		{HasGet: true, HasValue: true},
		{HasSet: true, HasWritable: true},
		{HasGet: true, Get: number(1)},
		{HasSet: true, Set: api.Value{Kind: api.Null}},
		{Value: number(1)},
		{Writable: true},
		{Get: object(1)},
		{HasValue: true, Set: object(1)},
		{HasGet: true, Enumerable: true},
		{HasGet: true, Configurable: true},
	} {
		for _, ext := range []bool{false, true} {
			for _, has := range []bool{false, true} {
				if got, ok := Apply(ext, d, has, now); ok || got != (api.Desc{}) {
					t.Errorf("P502: Apply(%v, %+v, %v, ..) = %+v, %v, want none", ext, d, has, got, ok)
				}
			}
			if got, ok := Apply(ext, api.Desc{}, true, d); ok || got != (api.Desc{}) {
				t.Errorf("P502: Apply(%v, .., true, %+v) = %+v, %v, want none", ext, d, got, ok)
			}
		}
	}
}

// checkApply compares Apply with the chapter and returns the case that applied.
func checkApply(t *testing.T, ext bool, d fields, has bool, now fields) int {
	t.Helper()
	got, ok := Apply(ext, d.desc(), has, now.desc())
	refused := refusal(ext, d, has, now)
	var want api.Desc
	if refused == 0 {
		want = applied(d, has, now).desc()
	}
	if got != want || ok != (refused == 0) {
		t.Fatalf("P502: Apply(%v, %+v, %v, %+v) = %+v, %v, want %+v (case %d)", ext, d.desc(), has, now.desc(), got, ok, want, refused)
	}
	return refused
}

func TestApplyOfEveryCombination(t *testing.T) {
	var met [7]int
	nows := everyWhole()
	for _, d := range everyDesc() {
		for _, now := range nows {
			for _, ext := range []bool{false, true} {
				met[checkApply(t, ext, d, true, now)]++
			}
		}
		for _, ext := range []bool{false, true} {
			met[checkApply(t, ext, d, false, fields{})]++
			met[checkApply(t, ext, d, false, nows[len(nows)-1])]++
		}
	}
	for i, n := range met {
		if n == 0 {
			t.Errorf("P502: case %d never applied", i)
		}
	}
}

func TestApplyWantsWholeDescriptors(t *testing.T) {
	yes := boolean(true)
	for _, now := range everyDesc() {
		for _, d := range []fields{{}, {"value": number(1)}, {"set": object(0)}, {"configurable": yes}} {
			for _, ext := range []bool{false, true} {
				checkApply(t, ext, d, true, now)
				checkApply(t, ext, d, false, now)
			}
		}
		for name, x := range filled(now.desc()) {
			if got, ok := Apply(true, api.Desc{}, true, x); ok || got != (api.Desc{}) {
				t.Fatalf("P502: with a %s that it does not have, to %+v was applied: %+v, %v", name, x, got, ok)
			}
		}
	}
}

func TestApplyGivesWholeDescriptorsThatMayBeAppliedAgain(t *testing.T) {
	nows := everyWhole()
	for _, d := range everyDesc() {
		for _, now := range nows {
			got, ok := Apply(false, d.desc(), true, now.desc())
			if !ok {
				continue
			}
			again, ok := Apply(false, d.desc(), true, got)
			if !Whole(got) || !ok || again != got {
				t.Fatalf("P502: %+v applied to %+v is %+v, and again %+v, %v", d.desc(), now.desc(), got, again, ok)
			}
		}
	}
}

func TestResultsDependOnlyOnArguments(t *testing.T) {
	nows := everyWhole()
	calls := func(d api.Desc) string {
		out := fmt.Sprint(Accessor(d), Data(d), Right(d), Whole(d), Complete(d))
		for i, now := range nows {
			got, ok := Apply(i%2 == 0, d, i%7 > 0, now.desc())
			out += fmt.Sprint(got, ok)
		}
		return out
	}
	var list []api.Desc
	for i, f := range everyDesc() {
		if i%5 == 0 {
			list = append(list, f.desc())
		}
	}
	var first []string
	for _, d := range list {
		first = append(first, calls(d))
	}
	for i, d := range slices.Backward(list) {
		if again := calls(d); again != first[i] {
			t.Fatalf("P503: of %+v: %s, then %s", d, first[i], again)
		}
	}
}

func TestExample(t *testing.T) {
	for _, now := range everyWhole() {
		for _, ext := range []bool{false, true} {
			if got, ok := Apply(ext, api.Desc{}, true, now.desc()); !ok || got != now.desc() {
				t.Errorf("P502: no fields applied to %+v: %+v, %v", now.desc(), got, ok)
			}
		}
	}
}
