package mop

import (
	"fmt"
	"math"
	"strings"
	"testing"

	"understudy/api"
)

func TestTrap(t *testing.T) {
	names := strings.Fields("getPrototypeOf setPrototypeOf isExtensible preventExtensions getOwnPropertyDescriptor defineProperty has get set deleteProperty ownKeys apply construct")
	for i, want := range names {
		if got := Trap(i + 1); got != want {
			t.Errorf("Trap(%d) = %q, want %q", i+1, got, want)
		}
	}
	for _, m := range []int{0, -1, 14, 15, math.MinInt, math.MaxInt} {
		if got := Trap(m); got != "" {
			t.Errorf("Trap(%d) = %q", m, got)
		}
	}
}

// trapCase is a proxy of a target, and what its trap returns.
type trapCase struct {
	m      int
	ext    bool
	props  []api.Entry // of the target
	a      api.Ask
	result api.Value
	want   api.Reply // that of Flow Threw stands for a TypeError
	steps  string    // those behind the call of the trap, with the target as t
}

// check performs the method on a new proxy. The target is the object 0, its
// prototype 1, the handler 2, the trap 3 and the proxy 4; what the case wants
// of others comes before.
func (c trapCase) check(t *testing.T, fill func(w world) api.Value) {
	t.Helper()
	what := fmt.Sprintf("P904: %s %+v with the result %+v on %v %+v", Trap(c.m), c.a, c.result, c.ext, c.props)
	w := newWorld(t)
	target := w.add(api.Thing{Proto: obj(1), Extensible: c.ext, Props: c.props})
	w.plain(null)
	handler := w.plain(null, field(Trap(c.m), obj(3), "w"))
	w.custom()
	p := w.proxy(target, handler)
	if fill != nil {
		c.result = fill(w)
	}
	rec := w.record(api.Reply{Value: c.result})
	before := w.Heap.Len()
	r := w.do(c.m, p, c.a)
	if c.want.Flow == api.Threw {
		w.throwsError(what, r, "TypeError")
	} else {
		w.replies(what, r, c.want)
		c.steps = join(c.steps, fmt.Sprint(shortNames[c.m], " 4", keyText(c.m, c.a)))
	}
	head := fmt.Sprintf("getOwn 2 %s, get 2 %s, call 3", Trap(c.m), Trap(c.m))
	if got, want := w.steps(0), join(head, strings.ReplaceAll(c.steps, " t", " 0")); got != want {
		t.Errorf("%s:\nsteps %s\nwant  %s", what, got, want)
	}
	log := w.Log()
	if done := c.want.Flow == api.Done; done && show(log[len(log)-1].Ask) != show(c.a) {
		t.Errorf("%s: the log has %+v", what, log[len(log)-1].Ask)
	}
	if c.want.Flow == api.Done {
		checkAsks(t, log)
	} else {
		checkAsks(t, append(log, api.Seen{}))
	}
	checkTrap(w, what, c, rec, before)
}

// checkTrap checks what the trap was called with.
func checkTrap(w world, what string, c trapCase, rec *recorder, before int) {
	w.t.Helper()
	if len(rec.calls) != 1 {
		w.t.Fatalf("%s: the trap is called %d times", what, len(rec.calls))
	}
	call := rec.calls[0]
	if call.this != obj(2) || show(call.f) != show(w.thing(obj(3))) {
		w.t.Errorf("%s: the trap %+v is called on %+v", what, call.f, call.this)
	}
	key := api.Value{Kind: api.String, Str: c.a.Key.Str}
	if c.a.Key.Sym != 0 {
		key = symbol(c.a.Key.Sym)
	}
	want := []api.Value{obj(0)}
	switch c.m {
	case api.MSetProto:
		want = append(want, c.a.Value)
	case api.MGetOwn, api.MHas, api.MDelete:
		want = append(want, key)
	case api.MDefine:
		want = append(want, key, obj(before))
		if got, r := w.To(obj(before)); got != c.a.Desc || r.Flow != api.Done {
			w.t.Errorf("%s: the trap is given the descriptor %+v", what, got)
		}
	case api.MGet:
		want = append(want, key, c.a.Receiver)
	case api.MSet:
		want = append(want, key, c.a.Value, c.a.Receiver)
	case api.MCall:
		want = append(want, c.a.Receiver, obj(before))
	case api.MConstruct:
		want = append(want, obj(before), c.a.Receiver)
	}
	if show(call.args) != show(want) {
		w.t.Errorf("%s: the trap is called with %+v, want %+v", what, call.args, want)
	}
	if c.m >= api.MCall {
		made := w.thing(obj(before))
		list, _ := w.List(obj(before))
		if made.Kind != api.Array || made.Proto != null || !made.Extensible || show(list) != show(c.a.List) {
			w.t.Errorf("%s: the trap is given the list %+v", what, made)
		}
	}
}

func join(a, b string) string {
	if a == "" || b == "" {
		return a + b
	}
	return a + ", " + b
}

func keyText(m int, a api.Ask) string {
	if api.MGetOwn <= m && m <= api.MDelete {
		return " " + a.Key.Str
	}
	return ""
}

var (
	truthy = []api.Value{yes, number(1), str("0"), symbol(1), obj(0)}
	falsy  = []api.Value{undefined, null, no, number(0), str("")}

	ok     = api.Reply{OK: true}
	not    = api.Reply{}
	thrown = api.Reply{Flow: api.Threw}
)

func TestTrapGetProto(t *testing.T) {
	for _, x := range []struct {
		ext    bool
		result api.Value
		want   api.Reply
		steps  string
	}{
		{true, null, api.Reply{Value: null}, "isExt t"}, {true, obj(1), api.Reply{Value: obj(1)}, "isExt t"}, {true, obj(3), api.Reply{Value: obj(3)}, "isExt t"},
		{false, obj(1), api.Reply{Value: obj(1)}, "isExt t, getProto t"}, {false, null, thrown, "isExt t, getProto t"}, {false, obj(3), thrown, "isExt t, getProto t"},
		{true, undefined, thrown, ""}, {false, undefined, thrown, ""}, {true, yes, thrown, ""}, {true, number(1), thrown, ""}, {false, str("a"), thrown, ""}, {false, symbol(1), thrown, ""},
	} {
		trapCase{api.MGetProto, x.ext, nil, api.Ask{}, x.result, x.want, x.steps}.check(t, nil)
	}
}

func TestTrapSetProto(t *testing.T) {
	for _, to := range []api.Value{null, obj(1), obj(3), undefined, number(1)} {
		a := api.Ask{Value: to}
		for _, ext := range []bool{true, false} {
			for _, v := range falsy {
				trapCase{api.MSetProto, ext, nil, a, v, not, ""}.check(t, nil)
			}
		}
		for _, v := range truthy {
			trapCase{api.MSetProto, true, nil, a, v, ok, "isExt t"}.check(t, nil)
			want := thrown
			if to == obj(1) {
				want = ok
			}
			trapCase{api.MSetProto, false, nil, a, v, want, "isExt t, getProto t"}.check(t, nil)
		}
	}
}

func TestTrapIsExt(t *testing.T) {
	for _, v := range truthy {
		trapCase{api.MIsExt, true, nil, api.Ask{}, v, ok, "isExt t"}.check(t, nil)
		trapCase{api.MIsExt, false, nil, api.Ask{}, v, thrown, "isExt t"}.check(t, nil)
	}
	for _, v := range falsy {
		trapCase{api.MIsExt, true, nil, api.Ask{}, v, thrown, "isExt t"}.check(t, nil)
		trapCase{api.MIsExt, false, nil, api.Ask{}, v, not, "isExt t"}.check(t, nil)
	}
}

func TestTrapPrevent(t *testing.T) {
	for _, v := range truthy {
		trapCase{api.MPrevent, true, nil, api.Ask{}, v, thrown, "isExt t"}.check(t, nil)
		trapCase{api.MPrevent, false, nil, api.Ask{}, v, ok, "isExt t"}.check(t, nil)
	}
	for _, v := range falsy {
		trapCase{api.MPrevent, true, nil, api.Ask{}, v, not, ""}.check(t, nil)
		trapCase{api.MPrevent, false, nil, api.Ask{}, v, not, ""}.check(t, nil)
	}
}

// askKeys are keys of which the target may have the property a.
var askKeys = []api.Key{name("a"), name(""), {Sym: 4}}

func TestTrapGetOwnOfNothing(t *testing.T) {
	for _, k := range askKeys {
		a := api.Ask{Key: k}
		own := "getOwn t " + k.Str
		for _, ext := range []bool{true, false} {
			trapCase{api.MGetOwn, ext, nil, a, undefined, not, own}.check(t, nil)
			trapCase{api.MGetOwn, ext, []api.Entry{{Key: k, Desc: dataDesc(yes, "we")}}, a, undefined, thrown, own}.check(t, nil)
			for _, v := range []api.Value{null, yes, no, number(0), number(1), str("a"), symbol(1)} {
				trapCase{api.MGetOwn, ext, nil, a, v, thrown, ""}.check(t, nil)
			}
		}
		there := []api.Entry{{Key: k, Desc: dataDesc(yes, "c")}}
		trapCase{api.MGetOwn, true, there, a, undefined, not, own + ", isExt t"}.check(t, nil)
		trapCase{api.MGetOwn, false, there, a, undefined, thrown, own + ", isExt t"}.check(t, nil)
	}
}

// toSteps are those of To of the object 5, which has the fields has.
func toSteps(has string) string {
	text := ""
	for _, k := range []string{"enumerable", "configurable", "value", "writable", "get", "set"} {
		if strings.Contains(has, k) {
			text = join(text, strings.ReplaceAll("getOwn 5 #, has 5 #, getOwn 5 #, get 5 #", "#", k))
		} else {
			text = join(text, strings.ReplaceAll("getOwn 5 #, getProto 5, has 5 #", "#", k))
		}
	}
	return text
}

func TestTrapGetOwn(t *testing.T) {
	all := "value writable enumerable configurable"
	for _, x := range []struct {
		ext  bool
		now  []api.Entry
		d    api.Desc
		has  string
		want api.Reply
	}{
		{true, nil, dataDesc(number(1), "c"), all, api.Reply{Has: true, Desc: dataDesc(number(1), "c")}},
		{true, nil, api.Desc{HasConfigurable: true, Configurable: true}, "configurable", api.Reply{Has: true, Desc: dataDesc(undefined, "c")}},
		{true, nil, api.Desc{HasGet: true, HasConfigurable: true, Configurable: true}, "get configurable", api.Reply{Has: true, Desc: sides("", undefined, undefined, "c").Desc}},
		{true, nil, api.Desc{}, "", thrown},
		{true, nil, dataDesc(number(1), "we"), all, thrown},
		{false, nil, dataDesc(number(1), "c"), all, thrown},
		{true, []api.Entry{field("a", number(1), "c")}, dataDesc(number(2), "wec"), all, api.Reply{Has: true, Desc: dataDesc(number(2), "wec")}},
		{false, []api.Entry{field("a", number(1), "c")}, dataDesc(number(2), "wec"), all, api.Reply{Has: true, Desc: dataDesc(number(2), "wec")}},
		{false, []api.Entry{field("a", number(1), "c")}, dataDesc(number(1), ""), all, thrown},
		{true, []api.Entry{field("a", number(1), "w")}, dataDesc(number(2), "w"), all, api.Reply{Has: true, Desc: dataDesc(number(2), "w")}},
		{true, []api.Entry{field("a", number(1), "w")}, dataDesc(number(1), ""), all, thrown},
		{true, []api.Entry{field("a", number(1), "")}, only(number(1)), "value", api.Reply{Has: true, Desc: dataDesc(number(1), "")}},
		{true, []api.Entry{field("a", number(1), "")}, only(number(2)), "value", thrown},
		{true, []api.Entry{field("a", number(1), "")}, api.Desc{HasGet: true}, "get", thrown},
	} {
		c := trapCase{api.MGetOwn, x.ext, x.now, api.Ask{Key: name("a")}, undefined, x.want, "getOwn t a, isExt t, " + toSteps(x.has)}
		c.check(t, func(w world) api.Value {
			v, _ := w.From(x.d)
			return v
		})
	}
}

// TestTrapGetOwnOfNoDescriptor: To decides what is one.
func TestTrapGetOwnOfNoDescriptor(t *testing.T) {
	for _, ext := range []bool{true, false} {
		trapCase{api.MGetOwn, ext, nil, api.Ask{Key: name("a")}, undefined, thrown, "getOwn t a, isExt t, " + toSteps("value get")}.check(t, func(w world) api.Value {
			return w.plain(null, field("value", yes, ""), field("get", undefined, ""))
		})
		trapCase{api.MGetOwn, ext, nil, api.Ask{Key: name("a")}, undefined, thrown, "getOwn t a, isExt t, " + strings.Split(toSteps("get"), ", getOwn 5 set")[0]}.check(t, func(w world) api.Value {
			return w.plain(null, field("get", null, ""))
		})
	}
}

func TestTrapDefine(t *testing.T) {
	for _, k := range askKeys {
		steps := fmt.Sprintf("getOwn t %s, isExt t", k.Str)
		entry := func(d api.Desc) []api.Entry { return []api.Entry{{Key: k, Desc: d}} }
		for _, x := range []struct {
			ext  bool
			now  []api.Entry
			d    api.Desc
			want api.Reply
		}{
			{true, nil, api.Desc{}, ok}, {false, nil, api.Desc{}, thrown}, {true, nil, dataDesc(yes, "c"), ok}, {true, nil, dataDesc(yes, ""), thrown},
			{false, entry(dataDesc(yes, "c")), only(no), ok}, {true, entry(dataDesc(yes, "c")), dataDesc(yes, ""), thrown},
			{true, entry(dataDesc(yes, "")), only(no), thrown}, {true, entry(dataDesc(yes, "")), only(yes), ok},
			{true, entry(dataDesc(yes, "w")), api.Desc{HasWritable: true}, thrown}, {true, entry(dataDesc(yes, "w")), dataDesc(no, "w"), ok},
			{true, entry(dataDesc(yes, "c")), sides("", obj(3), undefined, "ec").Desc, ok},
		} {
			a := api.Ask{Key: k, Desc: x.d}
			for _, v := range truthy {
				trapCase{api.MDefine, x.ext, x.now, a, v, x.want, steps}.check(t, nil)
			}
			for _, v := range falsy {
				trapCase{api.MDefine, x.ext, x.now, a, v, not, ""}.check(t, nil)
			}
		}
	}
}

// TestTrapDefineOfNoDescriptor: one that is not valid is passed on, and
// refused if the trap says that it was defined.
func TestTrapDefineOfNoDescriptor(t *testing.T) {
	w := newWorld(t)
	target, handler := w.plain(null), w.plain(null, field("defineProperty", w.gives(yes), ""))
	p := w.proxy(target, handler)
	w.throwsError("P904", w.define(p, "a", api.Desc{HasGet: true, HasValue: true}), "TypeError")
	handler = w.plain(null, field("defineProperty", w.gives(no), ""))
	w.replies("P904", w.define(w.proxy(target, handler), "a", api.Desc{HasGet: true, HasValue: true}), api.Reply{})
	w.throwsError("P904", w.define(w.proxy(target, w.plain(null)), "a", api.Desc{HasGet: true, HasValue: true}), "TypeError")
}

func TestTrapHasAndDelete(t *testing.T) {
	for _, k := range askKeys {
		a, own := api.Ask{Key: k}, "getOwn t "+k.Str
		free, fixed := []api.Entry{{Key: k, Desc: dataDesc(yes, "c")}}, []api.Entry{{Key: k, Desc: dataDesc(yes, "we")}}
		for _, ext := range []bool{true, false} {
			for _, now := range [][]api.Entry{nil, free, fixed} {
				for _, v := range truthy {
					trapCase{api.MHas, ext, now, a, v, ok, ""}.check(t, nil)
				}
				for _, v := range falsy {
					trapCase{api.MDelete, ext, now, a, v, not, ""}.check(t, nil)
				}
			}
			for i := range falsy {
				trapCase{api.MHas, ext, nil, a, falsy[i], not, own}.check(t, nil)
				trapCase{api.MHas, ext, fixed, a, falsy[i], thrown, own}.check(t, nil)
				trapCase{api.MDelete, ext, nil, a, truthy[i], ok, own}.check(t, nil)
				trapCase{api.MDelete, ext, fixed, a, truthy[i], thrown, own}.check(t, nil)
			}
		}
		for i := range falsy {
			trapCase{api.MHas, true, free, a, falsy[i], not, own + ", isExt t"}.check(t, nil)
			trapCase{api.MHas, false, free, a, falsy[i], thrown, own + ", isExt t"}.check(t, nil)
			trapCase{api.MDelete, true, free, a, truthy[i], ok, own + ", isExt t"}.check(t, nil)
			trapCase{api.MDelete, false, free, a, truthy[i], thrown, own + ", isExt t"}.check(t, nil)
		}
	}
}

func TestTrapGet(t *testing.T) {
	for _, k := range askKeys {
		for _, receiver := range []api.Value{obj(4), obj(1), undefined, number(5)} {
			a, own := api.Ask{Key: k, Receiver: receiver}, "getOwn t "+k.Str
			for _, v := range append(truthy, falsy...) {
				told := api.Reply{Value: v}
				for _, x := range []struct {
					now  []api.Entry
					want api.Reply
				}{
					{nil, told}, {[]api.Entry{{Key: k, Desc: dataDesc(str("x"), "c")}}, told}, {[]api.Entry{{Key: k, Desc: dataDesc(str("x"), "w")}}, told},
					{[]api.Entry{{Key: k, Desc: dataDesc(str("x"), "e")}}, thrown}, {[]api.Entry{{Key: k, Desc: dataDesc(v, "")}}, told},
					{[]api.Entry{{Key: k, Desc: sides("", obj(3), undefined, "").Desc}}, told},
				} {
					trapCase{api.MGet, true, x.now, a, v, x.want, own}.check(t, nil)
				}
				want := thrown
				if v == undefined {
					want = told
				}
				trapCase{api.MGet, true, []api.Entry{{Key: k, Desc: sides("", undefined, obj(3), "").Desc}}, a, v, want, own}.check(t, nil)
				trapCase{api.MGet, false, []api.Entry{{Key: k, Desc: sides("", undefined, obj(3), "c").Desc}}, a, v, told, own}.check(t, nil)
			}
		}
	}
}

func TestTrapSet(t *testing.T) {
	for _, k := range askKeys {
		for _, receiver := range []api.Value{obj(4), undefined} {
			a, own := api.Ask{Key: k, Value: number(7), Receiver: receiver}, "getOwn t "+k.Str
			for _, x := range []struct {
				now  []api.Entry
				want api.Reply
			}{
				{nil, ok}, {[]api.Entry{{Key: k, Desc: dataDesc(str("x"), "c")}}, ok}, {[]api.Entry{{Key: k, Desc: dataDesc(str("x"), "w")}}, ok},
				{[]api.Entry{{Key: k, Desc: dataDesc(str("x"), "e")}}, thrown}, {[]api.Entry{{Key: k, Desc: dataDesc(number(7), "")}}, ok},
				{[]api.Entry{{Key: k, Desc: sides("", obj(3), undefined, "").Desc}}, thrown}, {[]api.Entry{{Key: k, Desc: sides("", undefined, obj(3), "").Desc}}, ok},
				{[]api.Entry{{Key: k, Desc: sides("", obj(3), undefined, "c").Desc}}, ok},
			} {
				for _, v := range truthy {
					trapCase{api.MSet, true, x.now, a, v, x.want, own}.check(t, nil)
				}
				for _, v := range falsy {
					trapCase{api.MSet, true, x.now, a, v, not, ""}.check(t, nil)
				}
			}
		}
	}
}

// listSteps are those of List of the array 5 of n elements.
func listSteps(n int) string {
	text := "getOwn 5 length, get 5 length"
	for i := range n {
		text = join(text, strings.ReplaceAll("getOwn 5 #, get 5 #", "#", fmt.Sprint(i)))
	}
	return text
}

func TestTrapKeys(t *testing.T) {
	a, b, s := str("a"), str("b"), symbol(4)
	free, fixed := field("b", yes, "wec"), field("a", yes, "we")
	one := api.Entry{Key: name("1"), Desc: dataDesc(yes, "c")}
	sym := api.Entry{Key: api.Key{Sym: 4}, Desc: dataDesc(yes, "c")}
	for _, x := range []struct {
		ext   bool
		now   []api.Entry
		told  []api.Value
		ok    bool
		steps string
	}{
		{true, nil, nil, true, "isExt t, keys t"}, {false, nil, nil, true, "isExt t, keys t"},
		{true, nil, []api.Value{b, s, a, str("1"), str("")}, true, "isExt t, keys t"}, {false, nil, []api.Value{b}, false, "isExt t, keys t"},
		{true, []api.Entry{free, fixed, one}, []api.Value{a}, true, "isExt t, keys t, getOwn t 1, getOwn t b, getOwn t a"},
		{true, []api.Entry{free, fixed, one}, []api.Value{s, b, a}, true, "isExt t, keys t, getOwn t 1, getOwn t b, getOwn t a"},
		{true, []api.Entry{free, fixed}, []api.Value{b, s}, false, "isExt t, keys t, getOwn t b, getOwn t a"},
		{false, []api.Entry{free, fixed}, []api.Value{a, b}, true, "isExt t, keys t, getOwn t b, getOwn t a"},
		{false, []api.Entry{free, fixed, sym}, []api.Value{a, b}, false, "isExt t, keys t, getOwn t b, getOwn t a, getOwn t "},
		{false, []api.Entry{free, fixed, sym}, []api.Value{a, s, b}, true, "isExt t, keys t, getOwn t b, getOwn t a, getOwn t "},
		{false, []api.Entry{free}, []api.Value{a, b}, false, "isExt t, keys t, getOwn t b"},
		{true, nil, []api.Value{a, b, a}, false, ""}, {true, nil, []api.Value{s, s}, false, ""}, {true, nil, []api.Value{a, number(1)}, false, ""},
		{true, nil, []api.Value{undefined}, false, ""}, {true, nil, []api.Value{null}, false, ""}, {true, nil, []api.Value{yes, a}, false, ""},
		{true, nil, []api.Value{obj(0)}, false, ""}, {false, []api.Entry{fixed}, []api.Value{a, a}, false, ""},
	} {
		want := thrown
		if x.ok {
			want = api.Reply{}
			for _, v := range x.told {
				want.Keys = append(want.Keys, api.Key{Str: v.Str, Sym: v.Num})
			}
		}
		c := trapCase{api.MKeys, x.ext, x.now, api.Ask{}, undefined, want, join(listSteps(len(x.told)), x.steps)}
		c.check(t, func(w world) api.Value { return w.array(x.told...) })
	}
}

func TestTrapKeysOfNoList(t *testing.T) {
	for _, v := range append([]api.Value{}, undefined, null, yes, number(0), str("a"), symbol(1)) {
		trapCase{api.MKeys, true, nil, api.Ask{}, v, thrown, ""}.check(t, nil)
	}
	w := newWorld(t)
	handler := w.plain(null, field("ownKeys", w.gives(w.plain(null)), ""))
	w.throwsError("P904", w.do(api.MKeys, w.proxy(w.plain(null), handler), api.Ask{}), "RangeError")
}

// TestTrapKeysAreTheProperties: a key that is told but has no property, as a
// proxy may do, is no property.
func TestTrapKeysAreTheProperties(t *testing.T) {
	w := newWorld(t)
	target := w.plain(null)
	inner := w.proxy(target, w.plain(null, field("ownKeys", w.gives(w.array(str("x"))), "")))
	handler := w.plain(null, field("ownKeys", w.gives(w.array()), ""))
	w.replies("P904", w.do(api.MKeys, w.proxy(inner, handler), api.Ask{}), api.Reply{})
	if got := w.steps(0); !strings.Contains(got, fmt.Sprintf("keys %d, getOwn", inner.Num)) || !strings.Contains(got, fmt.Sprintf("getOwn %d x", inner.Num)) {
		t.Errorf("P904: steps %s", got)
	}
}

func TestTrapCall(t *testing.T) {
	for _, list := range [][]api.Value{nil, {yes}, {number(1), obj(0), undefined}} {
		for _, receiver := range []api.Value{undefined, obj(1), str("x")} {
			a := api.Ask{Receiver: receiver, List: list}
			for _, v := range append(truthy, falsy...) {
				trapCase{api.MCall, true, nil, a, v, api.Reply{Value: v}, ""}.check(t, nil)
				want := thrown
				if v.Kind == api.Object {
					want = api.Reply{Value: v}
				}
				trapCase{api.MConstruct, true, nil, a, v, want, ""}.check(t, nil)
			}
		}
	}
}

func TestProxiesThatCannotBeInvoked(t *testing.T) {
	for i := range 4 {
		w := newWorld(t)
		calls, makes := i%2 == 1, i/2 == 1
		w.record(api.Reply{Value: obj(0)})
		f := w.written()
		traps := w.plain(null, field("apply", f, ""), field("construct", f, ""))
		for _, handler := range []api.Value{traps, w.plain(null), null} {
			target := f
			if handler == null {
				target = null
			}
			p := w.add(api.Thing{Kind: api.Proxy, Proto: null, Target: target, Handler: handler, Calls: calls, Makes: makes})
			for m, can := range map[int]bool{api.MCall: calls, api.MConstruct: makes} {
				from := len(w.Log())
				r := w.do(m, p, api.Ask{Receiver: f})
				if can && handler != null {
					w.replies("P904", r, api.Reply{Value: obj(0)})
					continue
				}
				w.throwsError("P904", r, "TypeError")
				if got := w.steps(from); got != "" {
					t.Errorf("P904: steps %s", got)
				}
			}
		}
	}
}

func TestRevokedProxies(t *testing.T) {
	w := newWorld(t)
	w.record(api.Reply{Value: obj(0)})
	v := w.written(field("a", yes, "wec"))
	for _, handler := range []api.Value{null, undefined, yes, number(0), str("a"), symbol(1)} {
		for _, target := range []api.Value{null, v} {
			p := w.proxy(target, handler)
			for m := api.MGetProto; m <= api.MConstruct; m++ {
				fuel, _ := w.Left()
				w.throwsError("P904: "+Trap(m), w.do(m, p, api.Ask{Key: name("a"), Receiver: v, Value: null}), "TypeError")
				if left, _ := w.Left(); left != fuel-1 {
					t.Errorf("P904: %s takes %d steps", Trap(m), fuel-left)
				}
			}
		}
	}
	if got := w.steps(0); got != "" {
		t.Errorf("P904: steps %s", got)
	}
}

// TestProxiesOfNothing: a target that is no object is not valid, and is no
// object 0.
func TestProxiesOfNothing(t *testing.T) {
	w := newWorld(t)
	handler := w.plain(null)
	traps := w.plain(null)
	f := w.gives(yes)
	for m := api.MGetProto; m <= api.MConstruct; m++ {
		w.define(traps, Trap(m), only(f))
	}
	for _, target := range []api.Value{undefined, null, number(0), obj(-1), obj(1 << 40)} {
		for m := api.MGetProto; m <= api.MConstruct; m++ {
			w.throwsError("P904: "+Trap(m), w.do(m, w.proxy(target, handler), api.Ask{Receiver: f}), "TypeError")
			w.do(m, w.proxy(target, traps), api.Ask{Receiver: f})
			w.throwsError("P904: "+Trap(m), w.do(m, w.proxy(traps, obj(1<<40)), api.Ask{Receiver: f}), "TypeError")
		}
	}
}

// TestLookUpOfTraps: a trap can be inherited or told by an accessor, and the
// receiver is the handler.
func TestLookUpOfTraps(t *testing.T) {
	w := newWorld(t)
	this := w.function(api.Thing{Code: api.CThis})
	f := w.function(api.Thing{Code: api.CThis, Props: []api.Entry{sides("has", this, undefined, "")}})
	deep := w.add(api.Thing{Kind: api.Function, Code: api.CThis, Proto: f})
	p := w.proxy(w.plain(null), deep)
	from := len(w.Log())
	w.replies("P904", w.do(api.MHas, p, api.Ask{Key: name("a")}), api.Reply{OK: true})
	// The handler is its own trap here.
	want := "getOwn 2 has, getProto 2, getOwn 1 has, call 0, get 1 has, get 2 has, call 2, has 4 a"
	if got := w.steps(from); got != want {
		t.Errorf("P904: %s, want %s", got, want)
	}
	checkAsks(t, w.Log()[from:])
}

func TestTrapsThatCannotBeCalled(t *testing.T) {
	w := newWorld(t)
	target := w.written()
	for m := api.MGetProto; m <= api.MConstruct; m++ {
		for _, trap := range []api.Value{yes, no, number(0), str(""), symbol(1), w.plain(null), obj(1 << 40), w.add(api.Thing{Kind: api.Bound, Target: target, Makes: true})} {
			p := w.proxy(target, w.plain(null, field(Trap(m), trap, "")))
			before, from := w.Heap.Len(), len(w.Log())
			w.throwsError("P904: "+Trap(m), w.do(m, p, api.Ask{Receiver: target, List: []api.Value{yes}}), "TypeError")
			if w.Heap.Len() != before+1 || len(w.Log()) != from+2 {
				t.Errorf("P904: %s: %d objects, steps %s", Trap(m), w.Heap.Len()-before, w.steps(from))
			}
		}
		bad := w.plain(null, sides(Trap(m), w.throws(number(4)), undefined, ""))
		before := w.Heap.Len()
		w.replies("P904: "+Trap(m), w.do(m, w.proxy(target, bad), api.Ask{Receiver: target}), api.Reply{Flow: api.Threw, Value: number(4)})
		if w.Heap.Len() != before+1 {
			t.Errorf("P904: %s: objects are made for a trap that there is not", Trap(m))
		}
	}
}

// TestTrapsThatThrow: what they throw is passed on, and nothing follows.
func TestTrapsThatThrow(t *testing.T) {
	for _, r := range []api.Reply{{Flow: api.Threw, Value: str("x")}, {Flow: api.NoFuel}, {Flow: api.NoRoom}, {Flow: api.TooDeep}} {
		for m := api.MGetProto; m <= api.MConstruct; m++ {
			w := newWorld(t)
			w.record(r)
			p := w.proxy(w.plain(null), w.plain(null, field(Trap(m), w.custom(), "")))
			w.replies("P904: "+Trap(m), w.do(m, p, api.Ask{Receiver: p}), r)
			if fuel, _ := w.Left(); fuel != 1000000-4 {
				t.Errorf("P904: %s takes %d steps", Trap(m), 1000000-fuel)
			}
		}
	}
}

// TestRoomForArguments: without room for them the trap is not called.
func TestRoomForArguments(t *testing.T) {
	for m := api.MGetProto; m <= api.MConstruct; m++ {
		w := world{New(api.Bounds{Fuel: 100, Room: 4, Deep: 9}), t}
		c := w.record(api.Reply{Value: obj(0)})
		p := w.proxy(w.written(), w.plain(null, field(Trap(m), w.custom(), "")))
		r := w.do(m, p, api.Ask{Receiver: obj(0)})
		if m == api.MDefine || m >= api.MCall {
			w.replies("P904: "+Trap(m), r, api.Reply{Flow: api.NoRoom})
			w.received("P904: "+Trap(m), c)
		} else if len(c.calls) != 1 {
			t.Errorf("P904: %s: the trap is called %d times", Trap(m), len(c.calls))
		}
	}
}

// TestWithoutTrap: the target is asked exactly what the proxy was.
func TestWithoutTrap(t *testing.T) {
	for _, trap := range [][]api.Value{nil, {undefined}, {null}} {
		for m := api.MGetProto; m <= api.MConstruct; m++ {
			w := newWorld(t)
			target := w.written(field("a", yes, "wec"))
			w.record(api.Reply{Value: target})
			handler := w.plain(null)
			for _, v := range trap {
				w.define(handler, Trap(m), only(v))
			}
			p := w.proxy(target, handler)
			a := api.Ask{Key: name("a"), Value: null, Receiver: target, Desc: only(no), List: []api.Value{yes, no}}
			from, fuel := len(w.Log()), 0
			r := w.do(m, p, a)
			fuel, _ = w.Left()
			log := w.Log()[from:]
			last, inner := log[len(log)-1], log[len(log)-2]
			if last.Thing != p.Num || inner.Thing != target.Num || inner.Method != m || show(inner.Ask) != show(a) || show(last.Ask) != show(a) || show(inner.Reply) != show(r) || show(last.Reply) != show(r) {
				t.Errorf("P904: %s: the log ends with %+v, %+v", Trap(m), inner, last)
			}
			if fuel >= 1000000 {
				t.Error("P901: no fuel is taken")
			}
		}
	}
}

// TestRevokedOnTheWay: Target and Handler are those from when Do began.
func TestRevokedOnTheWay(t *testing.T) {
	for _, trap := range []bool{true, false} {
		w := newWorld(t)
		revoke := w.custom()
		target := w.plain(null, field("a", number(5), "c"))
		handler := w.plain(null, sides("get", revoke, undefined, ""))
		p := w.proxy(target, handler)
		arg := w.function(api.Thing{Code: api.CArg})
		w.Use(callerFunc(func(x *World, _ api.Thing, this api.Value, _ []api.Value) api.Reply {
			now, _ := x.Heap.Get(p.Num)
			now.Target, now.Handler = null, null
			x.Heap.Set(p.Num, now)
			if this != handler {
				t.Errorf("P904: the trap is looked up on %+v", this)
			}
			if trap {
				return api.Reply{Value: arg}
			}
			return api.Reply{}
		}))
		want := api.Reply{Value: number(5)}
		if trap {
			want.Value = target
		}
		w.replies("P904", w.do(api.MGet, p, api.Ask{Key: name("a"), Receiver: p}), want)
		w.throwsError("P904: revoked", w.do(api.MGet, p, api.Ask{Key: name("a"), Receiver: p}), "TypeError")
	}
}

// TestProxyOfProxy: the checks go through the proxy that is the target.
func TestProxyOfProxy(t *testing.T) {
	w := newWorld(t)
	target := w.closed(null, field("a", number(1), ""))         // 0
	inner := w.proxy(target, w.plain(null))                     // handler 1, proxy 2
	f := w.gives(number(1))                                     // 3
	outer := w.proxy(inner, w.plain(null, field("get", f, ""))) // handler 4, proxy 5
	w.replies("P904", w.do(api.MGet, outer, api.Ask{Key: name("a")}), api.Reply{Value: number(1)})
	look := "getOwn 1 getOwnPropertyDescriptor, getProto 1, get 1 getOwnPropertyDescriptor"
	if got, want := w.steps(0), "getOwn 4 get, get 4 get, call 3, "+look+", getOwn 0 a, getOwn 2 a, get 5 a"; got != want {
		t.Errorf("P904: %s, want %s", got, want)
	}
	lie := w.proxy(inner, w.plain(null, field("get", w.gives(number(2)), "")))
	w.throwsError("P904", w.do(api.MGet, lie, api.Ask{Key: name("a")}), "TypeError")
}

// TestTrapThatChangesTheTarget: the target is asked after the trap was called.
func TestTrapThatChangesTheTarget(t *testing.T) {
	w := newWorld(t)
	target := w.plain(null, field("a", number(1), "wec"))
	p := w.proxy(target, w.plain(null, field("preventExtensions", w.custom(), ""), field("deleteProperty", w.custom(), "")))
	w.Use(callerFunc(func(x *World, _ api.Thing, _ api.Value, args []api.Value) api.Reply {
		if len(args) == 1 {
			x.Do(api.MPrevent, args[0].Num, api.Ask{})
		} else {
			x.Do(api.MDelete, args[0].Num, api.Ask{Key: name("a")})
		}
		return api.Reply{Value: yes}
	}))
	w.replies("P904", w.do(api.MPrevent, p, api.Ask{}), api.Reply{OK: true})
	w.replies("P904", w.do(api.MDelete, p, api.Ask{Key: name("a")}), api.Reply{OK: true})
	w.replies("P904", w.do(api.MKeys, target, api.Ask{}), api.Reply{})
}
