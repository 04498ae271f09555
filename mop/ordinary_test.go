package mop

import (
	"fmt"
	"math"
	"slices"
	"testing"

	"understudy/api"
	"understudy/desc"
	"understudy/keys"
)

// ordinaryKinds are those whose objects have nothing of their own but calls;
// an array has only its length and elements.
var ordinaryKinds = []int{api.Plain, api.Array, api.Function, api.Bound, api.Error, 77, -1}

func TestGetProto(t *testing.T) {
	for _, kind := range ordinaryKinds {
		w := newWorld(t)
		for _, proto := range []api.Value{null, obj(0), obj(1)} {
			v := w.add(api.Thing{Kind: kind, Proto: proto})
			w.replies("P902", w.do(api.MGetProto, v, api.Ask{}), api.Reply{Value: proto})
		}
	}
}

func TestSetProto(t *testing.T) {
	w := newWorld(t)
	a, b := w.plain(null), w.plain(null)
	v, fixed := w.plain(null, field("x", number(1), "")), w.closed(a)
	ok, not := api.Reply{OK: true}, api.Reply{}
	for i, x := range []struct {
		v, to api.Value
		want  api.Reply
		after api.Value
	}{
		{v, null, ok, null}, {v, a, ok, a}, {v, a, ok, a}, {v, b, ok, b}, {v, null, ok, null},
		{v, v, not, null},
		{fixed, a, ok, a}, {fixed, b, not, a}, {fixed, null, not, a}, {fixed, fixed, not, a},
	} {
		what := fmt.Sprint("P902: row ", i)
		w.replies(what, w.do(api.MSetProto, x.v, api.Ask{Value: x.to}), x.want)
		w.replies(what, w.do(api.MGetProto, x.v, api.Ask{}), api.Reply{Value: x.after})
	}
	if got := w.thing(v); show(got) != show(api.Thing{Proto: null, Extensible: true, Props: []api.Entry{field("x", number(1), "")}}) {
		t.Errorf("P902: MSetProto changes more: %+v", got)
	}
	for _, to := range []api.Value{undefined, yes, number(0), number(1), str("a"), symbol(1)} {
		for _, from := range []api.Value{v, fixed} {
			w.throwsError(fmt.Sprintf("P902: MSetProto to %+v", to), w.do(api.MSetProto, from, api.Ask{Value: to}), "TypeError")
		}
	}
}

func TestSetProtoInARing(t *testing.T) {
	for size := 1; size < 6; size++ {
		w := newWorld(t)
		row := []api.Value{w.plain(null)}
		for i := range size {
			row = append(row, w.plain(row[i]))
		}
		for i, v := range row {
			for j, to := range row {
				if i == 0 && j == 0 || i != 0 && j == i-1 {
					continue
				}
				w.replies(fmt.Sprintf("P902: of %d, object %d to %d", size, i, j), w.do(api.MSetProto, v, api.Ask{Value: to}), api.Reply{OK: j < i})
				if j < i {
					w.do(api.MSetProto, v, api.Ask{Value: row[max(i-1, 0)]})
				}
			}
		}
	}
}

// TestSetProtoBehindAProxy: what follows a proxy is not looked at, so that a
// ring can come about.
func TestSetProtoBehindAProxy(t *testing.T) {
	w := newWorld(t)
	a := w.plain(null)
	p := w.add(api.Thing{Kind: api.Proxy, Proto: a, Target: a, Handler: w.plain(null)})
	b := w.plain(p)
	w.replies("P902", w.do(api.MSetProto, a, api.Ask{Value: b}), api.Reply{OK: true})
	w.replies("P902", w.do(api.MGetProto, a, api.Ask{}), api.Reply{Value: b})
	w.replies("P902: an endless row", w.do(api.MHas, a, api.Ask{Key: name("a")}), api.Reply{Flow: api.TooDeep})
}

// TestSetProtoToARing: a ring without the object does not keep it from ending.
func TestSetProtoToARing(t *testing.T) {
	w := newWorld(t)
	w.plain(obj(1))
	w.plain(obj(2))
	w.plain(obj(0))
	v := w.plain(null)
	w.replies("P902", w.do(api.MSetProto, v, api.Ask{Value: obj(1)}), api.Reply{OK: true})
	w.replies("P902", w.do(api.MGetProto, v, api.Ask{}), api.Reply{Value: obj(1)})
}

func TestIsExtAndPrevent(t *testing.T) {
	for _, kind := range ordinaryKinds {
		w := newWorld(t)
		made := api.Thing{Kind: kind, Proto: null, Extensible: true, Props: []api.Entry{field("a", number(1), "w")}, Args: []api.Value{yes}, Env: 3}
		v := w.add(made)
		w.replies("P902", w.do(api.MIsExt, v, api.Ask{}), api.Reply{OK: true})
		for range 2 {
			w.replies("P902", w.do(api.MPrevent, v, api.Ask{}), api.Reply{OK: true})
			w.replies("P902", w.do(api.MIsExt, v, api.Ask{}), api.Reply{})
			made.Extensible = false
			if got := w.thing(v); show(got) != show(made) {
				t.Errorf("P902: MPrevent makes %+v of %+v", got, made)
			}
		}
	}
}

func TestGetOwnAndKeys(t *testing.T) {
	for _, kind := range ordinaryKinds {
		w := newWorld(t)
		base := w.plain(null, field("up", number(1), "wec"))
		props := []api.Entry{
			{Key: api.Key{Sym: 3}, Desc: dataDesc(number(1), "")}, field("b", number(2), "w"), field("10", number(3), "e"),
			sides("a", base, undefined, "c"), field("9", number(4), "wec"),
		}
		v := w.add(api.Thing{Kind: kind, Proto: base, Props: props})
		for _, e := range props {
			w.replies("P902", w.do(api.MGetOwn, v, api.Ask{Key: e.Key}), api.Reply{Has: true, Desc: e.Desc})
		}
		for _, k := range []api.Key{name("up"), name(""), name("09"), {Sym: 1}} {
			w.replies("P902", w.do(api.MGetOwn, v, api.Ask{Key: k}), api.Reply{})
		}
		w.replies("P902", w.do(api.MKeys, v, api.Ask{}), api.Reply{Keys: []api.Key{name("9"), name("10"), name("b"), name("a"), {Sym: 3}}})
		w.replies("P902", w.do(api.MKeys, w.add(api.Thing{Kind: kind}), api.Ask{}), api.Reply{})
	}
}

func TestDefine(t *testing.T) {
	w := newWorld(t)
	f := w.custom()
	var descs []api.Desc
	for i := range 128 {
		d := api.Desc{
			HasValue: i&1 != 0, HasWritable: i&2 != 0, HasGet: i&4 != 0, HasSet: i&8 != 0, HasEnumerable: i&16 != 0, HasConfigurable: i&32 != 0,
		}
		if d.HasValue {
			d.Value = number(1)
		}
		if d.HasGet {
			d.Get = f
		}
		if i&64 != 0 {
			d.Writable, d.Enumerable, d.Configurable = d.HasWritable, d.HasEnumerable, d.HasConfigurable
		}
		descs = append(descs, d)
	}
	present := []api.Entry{field("a", number(1), ""), field("a", number(2), "w"), field("a", number(2), "wec"), sides("a", f, undefined, "e"), sides("a", f, f, "c")}
	for _, kind := range ordinaryKinds {
		for i := range 2 * (len(present) + 1) {
			var props []api.Entry
			if i/2 < len(present) {
				props = present[i/2 : i/2+1]
			}
			for _, d := range descs {
				checkDefine(w, api.Thing{Kind: kind, Proto: null, Extensible: i%2 == 0, Props: props}, d)
			}
		}
	}
}

// checkDefine defines the property a of a new object.
func checkDefine(w world, made api.Thing, d api.Desc) {
	w.t.Helper()
	what := fmt.Sprintf("P902: MDefine of %+v on %+v", d, made)
	v := w.add(made)
	r := w.do(api.MDefine, v, api.Ask{Key: name("a"), Desc: d})
	if !desc.Right(d) {
		w.throwsError(what, r, "TypeError")
	} else {
		var now api.Desc
		if len(made.Props) > 0 {
			now = made.Props[0].Desc
		}
		then, ok := desc.Apply(made.Extensible, d, len(made.Props) > 0, now)
		w.replies(what, r, api.Reply{OK: ok})
		if ok {
			made.Props = []api.Entry{{Key: name("a"), Desc: then}}
		}
	}
	if got := w.thing(v); show(got) != show(made) {
		w.t.Fatalf("%s: it is now %+v, want %+v", what, got, made)
	}
}

func TestOrderOfDefinedProperties(t *testing.T) {
	w := newWorld(t)
	v := w.plain(null)
	for _, k := range []string{"b", "a", "1", "b"} {
		w.do(api.MDefine, v, api.Ask{Key: name(k), Desc: dataDesc(str(k), "wec")})
	}
	want := []api.Entry{field("b", str("b"), "wec"), field("a", str("a"), "wec"), field("1", str("1"), "wec")}
	if got := w.thing(v).Props; show(got) != show(want) {
		t.Errorf("P902: %+v, want %+v", got, want)
	}
}

// family is a row of objects: the last one's prototype is the one before it,
// and so on. The first one has the property a.
func family(w world, size int, a ...api.Entry) []api.Value {
	row := []api.Value{w.plain(null, a...)}
	for i := 1; i < size; i++ {
		row = append(row, w.plain(row[i-1], field("b", number(i), "wec")))
	}
	return row
}

func TestHas(t *testing.T) {
	for _, kind := range ordinaryKinds {
		w := newWorld(t)
		row := family(w, 3, field("a", undefined, ""))
		v := w.add(api.Thing{Kind: kind, Proto: row[2]})
		for k, want := range map[string]bool{"a": true, "b": true, "c": false} {
			w.replies("P902: MHas of "+k, w.do(api.MHas, v, api.Ask{Key: name(k)}), api.Reply{OK: want})
		}
		w.replies("P902: of a symbol", w.do(api.MHas, v, api.Ask{Key: api.Key{Sym: 1}}), api.Reply{})
	}
}

func TestGet(t *testing.T) {
	w := newWorld(t)
	this := w.function(api.Thing{Code: api.CThis})
	row := family(w, 4, field("a", number(5), ""), sides("this", this, undefined, "c"), sides("none", undefined, this, "c"), sides("throws", w.throws(number(6)), this, "c"))
	for _, from := range row {
		for _, receiver := range []api.Value{from, row[0], number(3), undefined, null} {
			for k, want := range map[string]api.Reply{
				"a":      {Value: number(5)},
				"this":   {Value: receiver},
				"none":   {},
				"throws": {Flow: api.Threw, Value: number(6)},
				"zz":     {},
			} {
				w.replies("P902: MGet of "+k, w.do(api.MGet, from, api.Ask{Key: name(k), Receiver: receiver}), want)
			}
		}
	}
}

// TestFunctionsOfAccessors: they are called without more arguments than there
// are, and an object that can't be called throws.
func TestFunctionsOfAccessors(t *testing.T) {
	w := newWorld(t)
	first := w.function(api.Thing{Code: api.CArg})
	v := w.plain(null)
	a := w.plain(v, sides("first", first, first, ""), sides("object", v, v, ""), sides("lost", obj(9999), obj(9999), ""))
	ask := func(k string) api.Ask { return api.Ask{Key: name(k), Receiver: v, Value: number(8)} }
	w.replies("P902", w.do(api.MGet, a, ask("first")), api.Reply{})
	w.replies("P902", w.do(api.MSet, a, ask("first")), api.Reply{OK: true})
	want := []api.Ask{{Receiver: v}, {Receiver: v, List: []api.Value{number(8)}}}
	var got []api.Ask
	for _, s := range w.Log() {
		if s.Method == api.MCall {
			got = append(got, s.Ask)
		}
	}
	if show(got) != show(want) {
		t.Errorf("P902: functions are called with %+v, want %+v", got, want)
	}
	for _, k := range []string{"object", "lost"} {
		w.throwsError("P902: MGet of "+k, w.do(api.MGet, a, ask(k)), "TypeError")
		w.throwsError("P902: MSet of "+k, w.do(api.MSet, a, ask(k)), "TypeError")
	}
}

// TestAccessorsThatAreNotValid: Get and Set that are no objects throw.
func TestAccessorsThatAreNotValid(t *testing.T) {
	for _, f := range []api.Value{null, yes, number(0), str("f"), symbol(1), {Kind: 99}} {
		w := newWorld(t)
		v := w.plain(null, sides("a", f, f, ""))
		w.gives(number(1))
		w.throwsError("P902: MGet", w.do(api.MGet, v, api.Ask{Key: name("a"), Receiver: v}), "TypeError")
		w.throwsError("P902: MSet", w.do(api.MSet, v, api.Ask{Key: name("a"), Receiver: v}), "TypeError")
	}
}

func TestSet(t *testing.T) {
	w := newWorld(t)
	this := w.function(api.Thing{Code: api.CThis})
	first := []api.Entry{
		field("free", number(1), "w"), field("fixed", number(1), "ec"),
		sides("set", undefined, this, ""), sides("none", this, undefined, "c"), sides("throws", this, w.throws(number(6)), ""),
	}
	ok, not, added := api.Reply{OK: true}, api.Reply{}, dataDesc(number(7), "wec")
	for _, size := range []int{1, 2, 4} {
		row := family(w, size, first...)
		for _, x := range []struct {
			key      string
			receiver api.Value
			want     api.Reply
			then     api.Desc
		}{
			{"free", w.plain(null), ok, added},
			{"new", w.plain(null), ok, added},
			{"new", w.plain(null, field("new", number(1), "")), not, dataDesc(number(1), "")},
			{"new", w.plain(null, field("new", number(1), "w")), ok, dataDesc(number(7), "w")},
			{"new", w.closed(null, field("new", number(1), "we")), ok, dataDesc(number(7), "we")},
			{"new", w.plain(null, field("new", number(1), "ec")), not, dataDesc(number(1), "ec")},
			{"new", w.plain(null, sides("new", this, this, "c")), not, sides("new", this, this, "c").Desc},
			{"new", w.plain(null, sides("new", undefined, undefined, "")), not, sides("new", undefined, undefined, "").Desc},
			{"new", w.closed(null), not, api.Desc{}},
			{"fixed", w.plain(null), not, api.Desc{}},
			{"set", w.plain(null), ok, api.Desc{}},
			{"none", w.plain(null), not, api.Desc{}},
			{"throws", w.plain(null), api.Reply{Flow: api.Threw, Value: number(6)}, api.Desc{}},
		} {
			what := fmt.Sprintf("P902: MSet of %s on %+v", x.key, w.thing(x.receiver))
			w.replies(what, w.do(api.MSet, row[size-1], api.Ask{Key: name(x.key), Value: number(7), Receiver: x.receiver}), x.want)
			w.replies(what, w.do(api.MGetOwn, x.receiver, api.Ask{Key: name(x.key)}), api.Reply{Has: x.then != (api.Desc{}), Desc: x.then})
		}
		for _, receiver := range []api.Value{undefined, null, number(0), str("a")} {
			for k, want := range map[string]api.Reply{"free": not, "fixed": not, "new": not, "set": ok, "none": not} {
				what := fmt.Sprintf("P902: MSet of %s on %+v", k, receiver)
				w.replies(what, w.do(api.MSet, row[size-1], api.Ask{Key: name(k), Value: number(7), Receiver: receiver}), want)
			}
		}
	}
}

// TestSetOnItself: the property is the object's own, and stays as it is but
// for the value.
func TestSetOnItself(t *testing.T) {
	w := newWorld(t)
	base := w.plain(null, field("a", number(1), "w"), field("b", number(1), ""))
	v := w.plain(base, field("c", number(3), "w"))
	for k, want := range map[string]api.Reply{"a": {OK: true}, "b": {}, "c": {OK: true}, "d": {OK: true}} {
		w.replies("P902: MSet of "+k, w.do(api.MSet, v, api.Ask{Key: name(k), Value: number(7), Receiver: v}), want)
	}
	for k, want := range map[string]api.Reply{
		"a": {Has: true, Desc: dataDesc(number(7), "wec")}, "b": {},
		"c": {Has: true, Desc: dataDesc(number(7), "w")}, "d": {Has: true, Desc: dataDesc(number(7), "wec")},
	} {
		w.replies("P902: after MSet of "+k, w.do(api.MGetOwn, v, api.Ask{Key: name(k)}), want)
	}
	w.replies("P902: the prototype", w.do(api.MGetOwn, base, api.Ask{Key: name("a")}), api.Reply{Has: true, Desc: dataDesc(number(1), "w")})
}

func TestDelete(t *testing.T) {
	for _, kind := range ordinaryKinds {
		w := newWorld(t)
		base := w.plain(null, field("up", number(1), "wec"))
		f := w.custom()
		props := []api.Entry{field("a", number(1), "we"), field("b", number(1), "c"), sides("c", f, f, "e"), sides("d", f, f, "c")}
		for i, e := range props {
			v := w.add(api.Thing{Kind: kind, Proto: base, Extensible: i%2 == 0, Props: props})
			goes := e.Desc.Configurable
			for range 2 {
				w.replies("P902: MDelete of "+e.Key.Str, w.do(api.MDelete, v, api.Ask{Key: e.Key}), api.Reply{OK: goes})
				rest := slices.DeleteFunc(slices.Clone(props), func(x api.Entry) bool { return x == e && goes })
				if got := w.thing(v).Props; show(got) != show(rest) {
					t.Errorf("P902: after MDelete: %+v, want %+v", got, rest)
				}
			}
			w.replies("P902: MDelete of nothing", w.do(api.MDelete, v, api.Ask{Key: name("up")}), api.Reply{OK: true})
		}
		w.replies("P902: the prototype", w.do(api.MHas, base, api.Ask{Key: name("up")}), api.Reply{OK: true})
	}
}

// TestSteps: the methods that are performed on the way, in the order in which
// they end.
func TestSteps(t *testing.T) {
	w := newWorld(t)
	f := w.function(api.Thing{Code: api.CThis})                             // 0
	base := w.plain(null, field("a", number(1), "w"), sides("f", f, f, "")) // 1
	v := w.plain(base, field("b", number(1), "wc"))                         // 2
	other := w.plain(null, field("a", number(1), "w"))                      // 3
	for _, x := range []struct {
		m        int
		key      string
		receiver api.Value
		want     string
	}{
		{api.MGetProto, "", undefined, "getProto 2"},
		{api.MSetProto, "", undefined, "setProto 2"},
		{api.MIsExt, "", undefined, "isExt 2"},
		{api.MKeys, "", undefined, "keys 2"},
		{api.MGetOwn, "a", undefined, "getOwn 2 a"},
		{api.MDefine, "x", undefined, "define 2 x"},
		{api.MHas, "b", undefined, "getOwn 2 b, has 2 b"},
		{api.MHas, "a", undefined, "getOwn 2 a, getProto 2, getOwn 1 a, has 1 a, has 2 a"},
		{api.MHas, "z", undefined, "getOwn 2 z, getProto 2, getOwn 1 z, getProto 1, has 1 z, has 2 z"},
		{api.MGet, "b", v, "getOwn 2 b, get 2 b"},
		{api.MGet, "z", v, "getOwn 2 z, getProto 2, getOwn 1 z, getProto 1, get 1 z, get 2 z"},
		{api.MGet, "f", v, "getOwn 2 f, getProto 2, getOwn 1 f, call 0, get 1 f, get 2 f"},
		{api.MSet, "b", v, "getOwn 2 b, getOwn 2 b, define 2 b, set 2 b"},
		{api.MSet, "a", other, "getOwn 2 a, getProto 2, getOwn 1 a, getOwn 3 a, define 3 a, set 1 a, set 2 a"},
		{api.MSet, "a", null, "getOwn 2 a, getProto 2, getOwn 1 a, set 1 a, set 2 a"},
		{api.MSet, "z", other, "getOwn 2 z, getProto 2, getOwn 1 z, getProto 1, getOwn 3 z, define 3 z, set 1 z, set 2 z"},
		{api.MSet, "f", other, "getOwn 2 f, getProto 2, getOwn 1 f, call 0, set 1 f, set 2 f"},
		{api.MDelete, "b", undefined, "getOwn 2 b, delete 2 b"},
		{api.MDelete, "a", undefined, "getOwn 2 a, delete 2 a"},
		{api.MPrevent, "", undefined, "prevent 2"},
	} {
		from := len(w.Log())
		// What the method does not want is passed to nothing else.
		a := api.Ask{Key: name(x.key), Value: base, Receiver: x.receiver, Desc: only(number(9)), List: []api.Value{yes}}
		w.do(x.m, v, a)
		if got := w.steps(from); got != x.want {
			t.Errorf("P902: %s", got)
			t.Errorf("want: %s", x.want)
		}
		checkAsks(t, w.Log()[from:])
	}
}

// checkAsks checks that the calls on the way, which come before the last one,
// are asked only what their methods want.
func checkAsks(t *testing.T, l []api.Seen) {
	t.Helper()
	for _, s := range l[:len(l)-1] {
		if a := wanted(s.Method, s.Ask); show(a) != show(s.Ask) {
			t.Errorf("P901: %s is asked %+v", step(s), s.Ask)
		}
	}
}

// wanted returns what the method m wants of a.
func wanted(m int, a api.Ask) api.Ask {
	var out api.Ask
	if api.MGetOwn <= m && m <= api.MDelete {
		out.Key = a.Key
	}
	switch m {
	case api.MSetProto:
		out.Value = a.Value
	case api.MDefine:
		out.Desc = a.Desc
	case api.MGet:
		out.Receiver = a.Receiver
	case api.MSet:
		out.Value, out.Receiver = a.Value, a.Receiver
	case api.MCall, api.MConstruct:
		out.Receiver, out.List = a.Receiver, a.List
	}
	return out
}

// TestDescriptorsThatMSetAsksFor: a new property is whole, and one that exists
// only gets a value.
func TestDescriptorsThatMSetAsksFor(t *testing.T) {
	w := newWorld(t)
	v := w.plain(null)
	for _, want := range []api.Desc{dataDesc(number(7), "wec"), only(number(7))} {
		from := len(w.Log())
		w.do(api.MSet, v, api.Ask{Key: name("a"), Value: number(7), Receiver: v})
		for _, s := range w.Log()[from:] {
			if s.Method == api.MDefine && s.Ask.Desc != want {
				t.Errorf("P902: MSet asks for %+v, want %+v", s.Ask.Desc, want)
			}
		}
	}
}

// TestReceiversThatDoNotExist: nothing is promised for them but an end.
func TestReceiversThatDoNotExist(t *testing.T) {
	w := newWorld(t)
	v := w.plain(null, field("a", number(1), "w"))
	for _, o := range []int{-1, 1 << 40, math.MinInt, math.MaxInt} {
		w.throwsError("P902: MSet", w.do(api.MSet, v, api.Ask{Key: name("a"), Receiver: obj(o)}), "TypeError")
		w.replies("P902: MGet", w.do(api.MGet, v, api.Ask{Key: name("a"), Receiver: obj(o)}), api.Reply{Value: number(1)})
		w.do(api.MSetProto, v, api.Ask{Value: obj(o)})
		w.do(api.MGet, v, api.Ask{Key: name("b"), Receiver: v})
	}
}

// TestManyPropertiesOfOneObject: with steps that grow with their number, this
// would not end in time.
func TestManyPropertiesOfOneObject(t *testing.T) {
	w := world{New(api.Bounds{Fuel: math.MaxInt, Room: 9, Deep: 9}), t}
	v := w.plain(null)
	const many = 30000
	for i := range many {
		w.do(api.MSet, v, api.Ask{Key: api.Key{Sym: i + 1}, Value: number(i), Receiver: v})
	}
	for i := range many {
		w.replies("P902", w.do(api.MGet, v, api.Ask{Key: api.Key{Sym: i + 1}, Receiver: v}), api.Reply{Value: number(i)})
	}
	if l := w.do(api.MKeys, v, api.Ask{}).Keys; len(l) != many || !keys.Same(l, keys.Order(l)) {
		t.Errorf("P902: %d keys", len(l))
	}
}
