package mop

import (
	"fmt"
	"math"
	"strings"
	"testing"

	"understudy/api"
	"understudy/desc"
)

func TestFrom(t *testing.T) {
	w := newWorld(t)
	f := w.custom()
	for i := range 64 {
		for _, on := range []bool{false, true} {
			var d api.Desc
			var want []api.Entry
			add := func(bit int, k string, v api.Value) bool {
				if i&bit != 0 {
					want = append(want, field(k, v, "wec"))
				}
				return i&bit != 0
			}
			truth := boolValue(on)
			d.HasValue = add(1, "value", str("v"))
			d.HasWritable = add(2, "writable", truth)
			d.HasGet = add(4, "get", f)
			d.HasSet = add(8, "set", undefined)
			d.HasEnumerable = add(16, "enumerable", truth)
			d.HasConfigurable = add(32, "configurable", truth)
			if d.HasValue {
				d.Value = str("v")
			}
			if d.HasGet {
				d.Get = f
			}
			d.Writable, d.Enumerable, d.Configurable = on && d.HasWritable, on && d.HasEnumerable, on && d.HasConfigurable
			v, r := w.From(d)
			w.replies("P905", r, api.Reply{})
			if v != obj(w.Heap.Len()-1) || show(w.thing(v)) != show(api.Thing{Proto: null, Extensible: true, Props: want}) {
				t.Errorf("P905: From of %+v = %+v, want %+v", d, w.thing(v), want)
			}
		}
	}
	if len(w.Log()) != 0 {
		t.Error("P905: From is in the log")
	}
}

func TestFromWithoutRoom(t *testing.T) {
	w := world{New(api.Bounds{Fuel: 9, Room: 1, Deep: 9}), t}
	for i := range 3 {
		v, r := w.From(dataDesc(yes, "wec"))
		if want := []int{api.Done, api.NoRoom, api.NoRoom}[i]; show(r) != show(api.Reply{Flow: want}) || i > 0 && v != undefined {
			t.Errorf("P905: From = %+v, %+v", v, r)
		}
	}
}

func TestToAndFrom(t *testing.T) {
	w := newWorld(t)
	f := w.custom()
	for i := range 128 {
		d := api.Desc{
			HasValue: i&1 != 0, HasWritable: i&2 != 0, HasGet: i&4 != 0, HasSet: i&8 != 0,
			HasEnumerable: i&16 != 0, HasConfigurable: i&32 != 0, Enumerable: i&16 != 0 && i&64 != 0, Writable: i&2 != 0 && i&64 != 0,
		}
		if d.HasGet {
			d.Get = f
		}
		if d.HasValue {
			d.Value = number(4)
		}
		v, _ := w.From(d)
		got, r := w.To(v)
		if desc.Right(d) {
			w.replies("P905", r, api.Reply{})
			if got != d {
				t.Errorf("P905: To of From of %+v = %+v", d, got)
			}
		} else {
			w.throwsError(fmt.Sprintf("P905: To of %+v", d), r, "TypeError")
			if got != (api.Desc{}) {
				t.Errorf("P905: beside an error there is %+v", got)
			}
		}
	}
}

func TestToOfNoObject(t *testing.T) {
	w := newWorld(t)
	w.plain(null)
	for _, v := range []api.Value{undefined, null, yes, number(0), str("a"), symbol(1), obj(-1), obj(7000), obj(math.MinInt)} {
		d, r := w.To(v)
		w.throwsError(fmt.Sprintf("P905: To of %+v", v), r, "TypeError")
		if d != (api.Desc{}) {
			t.Errorf("P905: beside an error there is %+v", d)
		}
	}
}

// TestTruthInTo: the boolean fields are what counts as true.
func TestTruthInTo(t *testing.T) {
	w := newWorld(t)
	for _, x := range []struct {
		v    api.Value
		want bool
	}{{undefined, false}, {null, false}, {no, false}, {number(0), false}, {str(""), false}, {yes, true}, {number(-1), true}, {str("0"), true}, {symbol(1), true}, {obj(0), true}} {
		v := w.plain(null, field("writable", x.v, ""), field("enumerable", x.v, ""), field("configurable", x.v, ""), field("value", x.v, ""), field("other", x.v, ""))
		want := api.Desc{
			HasWritable: true, HasEnumerable: true, HasConfigurable: true, HasValue: true, Value: x.v,
			Writable: x.want, Enumerable: x.want, Configurable: x.want,
		}
		if got, r := w.To(v); got != want || r.Flow != api.Done {
			t.Errorf("P905: To of %+v = %+v, %+v", x.v, got, r)
		}
	}
}

// TestToAsksEverything: all fields are looked for in their order, inherited
// ones too, and with the object as receiver.
func TestToAsksEverything(t *testing.T) {
	w := newWorld(t)
	this := w.function(api.Thing{Code: api.CThis})
	base := w.plain(null, sides("value", this, undefined, ""))
	v := w.plain(base, field("writable", yes, "w"))
	d, r := w.To(v)
	if want := (api.Desc{HasValue: true, Value: v, HasWritable: true, Writable: true}); d != want || r.Flow != api.Done {
		t.Errorf("P905: To = %+v, %+v", d, r)
	}
	var got []string
	for _, s := range w.Log() {
		if s.Thing == v.Num && (s.Method == api.MHas || s.Method == api.MGet) {
			got = append(got, step(s))
			if s.Method == api.MGet && s.Ask.Receiver != v {
				t.Errorf("P905: the receiver is %+v", s.Ask.Receiver)
			}
		}
	}
	if got, want := strings.Join(got, ", "), "has 2 enumerable, has 2 configurable, has 2 value, get 2 value, has 2 writable, get 2 writable, has 2 get, has 2 set"; got != want {
		t.Errorf("P905: %s, want %s", got, want)
	}
	checkAsks(t, w.Log())
}

// TestToStopsAtOnce: what comes behind a fault is not asked any more.
func TestToStopsAtOnce(t *testing.T) {
	w := newWorld(t)
	f, bad := w.custom(), w.throws(number(3))
	fields := []string{"enumerable", "configurable", "value", "writable", "get", "set"}
	for i, k := range fields {
		var props []api.Entry
		for _, k := range fields {
			props = append(props, field(k, f, ""))
		}
		props[i] = sides(k, bad, undefined, "")
		v, from := w.plain(null, props...), len(w.Log())
		d, r := w.To(v)
		w.replies("P905", r, api.Reply{Flow: api.Threw, Value: number(3)})
		if d != (api.Desc{}) {
			t.Errorf("P905: beside an error there is %+v", d)
		}
		// Two steps to see that there is a field, two to read it; of the last
		// ones, only the look-up of the property ended.
		if got := len(w.Log()) - from; got != 4*i+3 {
			t.Errorf("P905: %d steps up to %s", got, k)
		}
	}
	for i, k := range []string{"get", "set"} {
		for _, x := range []api.Value{null, yes, no, number(0), str(""), symbol(1), w.plain(null), obj(1 << 30)} {
			v, from := w.plain(null, field(k, x, ""), sides("value", bad, undefined, "")), len(w.Log())
			v2 := w.plain(null, field(k, x, ""), sides([]string{"set", "writable"}[i], bad, undefined, ""))
			_, r := w.To(v)
			w.replies("P905: an earlier field", r, api.Reply{Flow: api.Threw, Value: number(3)})
			from = len(w.Log())
			if i == 0 {
				_, r = w.To(v2)
				w.throwsError(fmt.Sprintf("P905: %s is %+v", k, x), r, "TypeError")
				if got := w.steps(from); !strings.HasSuffix(got, " get") || strings.Contains(got, " set") {
					t.Errorf("P905: steps %s", got)
				}
			}
		}
		for _, x := range []api.Value{undefined, f, w.proxy(null, null)} {
			d, r := w.To(w.plain(null, field(k, x, "")))
			w.replies("P905", r, api.Reply{})
			if want := []api.Desc{{HasGet: true, Get: x}, {HasSet: true, Set: x}}[i]; d != want {
				t.Errorf("P905: To = %+v, want %+v", d, want)
			}
		}
	}
}

// TestToOfBothSorts: that a descriptor is not valid shows at the end.
func TestToOfBothSorts(t *testing.T) {
	w := newWorld(t)
	f := w.custom()
	for _, props := range [][]api.Entry{
		{field("value", yes, ""), field("get", f, "")}, {field("writable", no, ""), field("set", undefined, "")},
		{field("value", undefined, ""), field("get", undefined, ""), field("set", f, "")},
	} {
		from := len(w.Log())
		_, r := w.To(w.plain(null, props...))
		w.throwsError("P905", r, "TypeError")
		if got := w.steps(from); !strings.Contains(got, " set") {
			t.Errorf("P905: steps %s", got)
		}
	}
}

func TestList(t *testing.T) {
	w := newWorld(t)
	all := []api.Value{undefined, null, yes, number(1), str("a"), symbol(1), obj(0)}
	for n := range len(all) {
		v := w.array(all[:n]...)
		l, r := w.List(v)
		w.replies("P905", r, api.Reply{})
		if show(l) != show(all[:n]) {
			t.Errorf("P905: List = %+v, want %+v", l, all[:n])
		}
	}
	this := w.function(api.Thing{Code: api.CThis})
	base := w.plain(null, sides("1", this, undefined, ""))
	v := w.plain(base, field("length", number(3), ""), field("0", yes, ""), field("3", yes, ""))
	from := len(w.Log())
	l, r := w.List(v)
	w.replies("P905", r, api.Reply{})
	if want := []api.Value{yes, v, undefined}; show(l) != show(want) {
		t.Errorf("P905: List = %+v, want %+v", l, want)
	}
	var got []string
	for _, s := range w.Log()[from:] {
		if s.Thing == v.Num && s.Method == api.MGet {
			got = append(got, step(s))
		}
	}
	me := fmt.Sprint(v.Num)
	if got, want := strings.Join(got, ", "), "get # length, get # 0, get # 1, get # 2"; got != strings.ReplaceAll(want, "#", me) {
		t.Errorf("P905: %s, want %s", got, want)
	}
	checkAsks(t, w.Log())
}

func TestLongLists(t *testing.T) {
	w := newWorld(t)
	v := w.plain(null, field("length", number(api.MaxList), ""), field(fmt.Sprint(api.MaxList-1), yes, ""))
	l, r := w.List(v)
	w.replies("P905", r, api.Reply{})
	if len(l) != api.MaxList || l[api.MaxList-1] != yes || l[0] != undefined {
		t.Errorf("P905: List has %d elements", len(l))
	}
}

func TestListOfNone(t *testing.T) {
	w := newWorld(t)
	bad := w.throws(number(3))
	for _, v := range []api.Value{undefined, null, yes, number(1), str("abc"), symbol(1), obj(-1), obj(1 << 33)} {
		l, r := w.List(v)
		w.throwsError(fmt.Sprintf("P905: List of %+v", v), r, "TypeError")
		if len(l) != 0 {
			t.Errorf("P905: beside an error there is %+v", l)
		}
	}
	for _, n := range []api.Value{undefined, null, yes, number(-1), number(api.MaxList + 1), number(math.MaxInt), number(math.MinInt), str("1"), symbol(1), obj(0)} {
		from := len(w.Log())
		l, r := w.List(w.plain(null, field("length", n, ""), sides("0", bad, undefined, "")))
		w.throwsError(fmt.Sprintf("P905: length %+v", n), r, "RangeError")
		if len(l) != 0 || len(w.Log()) != from+2 {
			t.Errorf("P905: length %+v: %+v, steps %s", n, l, w.steps(from))
		}
	}
	_, r := w.List(w.plain(null))
	w.throwsError("P905: no length", r, "RangeError")
	for _, k := range []string{"length", "0", "1"} {
		props := []api.Entry{field("length", number(3), "")}
		if k == "length" {
			props = nil
		}
		l, r := w.List(w.plain(null, append(props, sides(k, bad, undefined, ""))...))
		w.replies("P905: "+k, r, api.Reply{Flow: api.Threw, Value: number(3)})
		if len(l) != 0 {
			t.Errorf("P905: beside an error there is %+v", l)
		}
	}
}

func TestArray(t *testing.T) {
	w := newWorld(t)
	all := []api.Value{number(5), undefined, obj(0), str("a")}
	for n := range len(all) + 1 {
		v, r := w.Array(all[:n])
		w.replies("P905", r, api.Reply{})
		want := api.Thing{Kind: api.Array, Proto: null, Extensible: true, Props: []api.Entry{field("length", number(n), "w")}}
		for i, x := range all[:n] {
			want.Props = append(want.Props, field(fmt.Sprint(i), x, "wec"))
		}
		if got := w.thing(v); v != obj(n) || show(got) != show(want) {
			t.Errorf("P905: Array = %+v, want %+v", got, want)
		}
	}
	if len(w.Log()) != 0 {
		t.Error("P905: Array is in the log")
	}
	full := New(api.Bounds{})
	v, r := full.Array(all)
	w.replies("P905", r, api.Reply{Flow: api.NoRoom})
	if v != undefined {
		t.Errorf("P905: beside an error there is %+v", v)
	}
}

// TestArrayWith: it is Array but for the prototype.
func TestArrayWith(t *testing.T) {
	for _, proto := range []api.Value{null, obj(0), obj(7)} {
		w := newWorld(t)
		for _, l := range [][]api.Value{nil, {yes}, {number(5), undefined, obj(0), str("a")}} {
			plain, r := w.Array(l)
			w.replies("P905", r, api.Reply{})
			want := w.thing(plain)
			want.Proto = proto
			v, r := w.ArrayWith(proto, l)
			w.replies("P905", r, api.Reply{})
			if got := w.thing(v); v != obj(plain.Num+1) || show(got) != show(want) {
				t.Errorf("P905: ArrayWith = %+v, want %+v", got, want)
			}
		}
		v, r := New(api.Bounds{}).ArrayWith(proto, nil)
		w.replies("P905", r, api.Reply{Flow: api.NoRoom})
		if v != undefined {
			t.Errorf("P905: beside an error there is %+v", v)
		}
	}
}

// TestConversionsThatEnd: a bound stops them like anything else.
func TestConversionsThatEnd(t *testing.T) {
	for fuel := range 20 {
		w := world{New(api.Bounds{Fuel: fuel, Room: 9, Deep: 9}), t}
		v := w.plain(null, field("length", number(3), ""))
		l, r := w.List(v)
		want := api.Reply{}
		if fuel < 2+3*3 {
			want.Flow = api.NoFuel
		}
		w.replies("P905: List", r, want)
		if (len(l) == 3) != (want.Flow == api.Done) {
			t.Errorf("P905: fuel %d: %+v", fuel, l)
		}
	}
	for fuel := range 30 {
		w := world{New(api.Bounds{Fuel: fuel, Room: 9, Deep: 9}), t}
		d, r := w.To(w.plain(null, field("value", yes, "")))
		want := api.Reply{}
		if fuel < 5*3+2+2 {
			want.Flow = api.NoFuel
		}
		w.replies("P905: To", r, want)
		if d.HasValue != (want.Flow == api.Done) {
			t.Errorf("P905: fuel %d: %+v", fuel, d)
		}
	}
	for deep := range 4 {
		w := world{New(api.Bounds{Fuel: 100, Room: 9, Deep: deep}), t}
		want := api.Reply{}
		if deep < 2 {
			want.Flow = api.TooDeep
		}
		_, r := w.List(w.plain(null, field("length", number(0), "")))
		w.replies("P905: List", r, want)
		_, r = w.To(w.plain(null))
		w.replies("P905: To", r, want)
	}
}
