package mop

import (
	"fmt"
	"math"
	"slices"
	"testing"

	"understudy/api"
)

// recorder is a Caller that keeps what it is given and returns reply.
type recorder struct {
	calls []recorded
	reply api.Reply
}

type recorded struct {
	f    api.Thing
	this api.Value
	args []api.Value
}

func (c *recorder) Call(_ *World, f api.Thing, this api.Value, args []api.Value) api.Reply {
	c.calls = append(c.calls, recorded{f, this, args})
	return c.reply
}

func (w world) record(r api.Reply) *recorder {
	c := &recorder{reply: r}
	w.Use(c)
	return c
}

func (w world) received(what string, c *recorder, want ...recorded) {
	w.t.Helper()
	if show(c.calls) != show(want) {
		w.t.Fatalf("%s: the Caller is given %+v, want %+v", what, c.calls, want)
	}
	c.calls = nil
}

func TestWhatCannotBeCalled(t *testing.T) {
	w := newWorld(t)
	c := w.record(api.Reply{Value: number(1)})
	f := w.written()
	for _, x := range []api.Thing{
		{Kind: api.Plain, Code: api.CConst, Calls: true, Makes: true}, {Kind: api.Array, Code: api.CConst}, {Kind: api.Error, Calls: true},
		{Kind: 99, Calls: true, Makes: true}, {Kind: api.Bound, Target: f}, {Kind: api.Proxy, Target: f, Handler: f},
	} {
		v := w.add(x)
		for _, m := range []int{api.MCall, api.MConstruct} {
			w.throwsError(fmt.Sprintf("P902: %s of %+v", shortNames[m], x), w.do(m, v, api.Ask{Receiver: v}), "TypeError")
		}
	}
	for _, code := range []int{0, api.CConst, api.CThrow, api.CArg, api.CThis, api.CReflect + 1, api.CRevoke, api.CKeys, -1} {
		v := w.function(api.Thing{Code: code, Makes: true})
		w.throwsError(fmt.Sprintf("P902: construct of the code %d", code), w.do(api.MConstruct, v, api.Ask{Receiver: v}), "TypeError")
	}
	w.throwsError("P902: call of the code CProxy", w.do(api.MCall, w.function(api.Thing{Code: api.CProxy}), api.Ask{}), "TypeError")
	half := w.add(api.Thing{Kind: api.Bound, Target: f, Calls: true})
	w.throwsError("P902: construct", w.do(api.MConstruct, half, api.Ask{Receiver: half}), "TypeError")
	w.received("P902", c)
	w.replies("P902", w.do(api.MCall, half, api.Ask{}), api.Reply{Value: number(1)})
}

func TestCodesOfFunctions(t *testing.T) {
	w := newWorld(t)
	c := w.record(api.Reply{Value: number(1)})
	all := []api.Value{undefined, null, yes, number(-3), str("a"), symbol(2), obj(0)}
	for _, v := range all {
		a := api.Ask{Receiver: v, List: all}
		w.replies("P902: CConst", w.do(api.MCall, w.gives(v), api.Ask{Receiver: null, List: all}), api.Reply{Value: v})
		w.replies("P902: CThrow", w.do(api.MCall, w.throws(v), api.Ask{Receiver: null, List: all}), api.Reply{Flow: api.Threw, Value: v})
		w.replies("P902: CThis", w.do(api.MCall, w.function(api.Thing{Code: api.CThis}), a), api.Reply{Value: v})
	}
	for _, n := range []int{0, 1, 6, 7, 100, -1, math.MinInt, math.MaxInt} {
		want := undefined
		if 0 <= n && n < len(all) {
			want = all[n]
		}
		f := w.function(api.Thing{Code: api.CArg, N: n})
		w.replies(fmt.Sprint("P902: CArg ", n), w.do(api.MCall, f, api.Ask{Receiver: yes, List: all}), api.Reply{Value: want})
		w.replies(fmt.Sprint("P902: CArg ", n), w.do(api.MCall, f, api.Ask{Receiver: yes}), api.Reply{})
	}
	w.received("P902", c)
}

func TestCodesOfTheCaller(t *testing.T) {
	for _, code := range []int{0, -1, 6, api.CWritten, api.CReflect, api.CReflect + 1, api.CReflect + 13, api.CRevocable, api.CRevoke, api.CPrint, api.CSymbol, api.CIsArray, api.CBind, api.CCall, api.CKeys, 44, math.MaxInt} {
		w := newWorld(t)
		made := api.Thing{Code: code, N: 4, V: str("v"), Env: 6, Props: []api.Entry{field("a", number(1), "")}, Args: []api.Value{null}}
		f := w.function(made)
		a := api.Ask{Receiver: str("this"), List: []api.Value{number(1), yes}}
		w.throwsError("P902: without a Caller", w.do(api.MCall, f, a), "TypeError")
		for _, r := range []api.Reply{{}, {Value: number(1)}, {Flow: api.Threw, Value: number(2)}, {Flow: api.NoFuel}, {Flow: api.NoRoom}, {Flow: api.TooDeep}} {
			c := w.record(r)
			w.replies("P902", w.do(api.MCall, f, a), r)
			w.received("P902", c, recorded{w.thing(f), str("this"), a.List})
		}
		w.Use(nil)
		w.throwsError("P902: without a Caller", w.do(api.MCall, f, a), "TypeError")
	}
}

// TestFieldsOfTheCallersReply: the replies of MCall and MConstruct have a value
// and nothing else.
func TestFieldsOfTheCallersReply(t *testing.T) {
	w := newWorld(t)
	w.record(api.Reply{Value: obj(0), OK: true, Has: true, Desc: only(yes), Keys: []api.Key{name("a")}})
	f, p := w.written(), w.function(api.Thing{Code: api.CProxy})
	w.replies("P901", w.do(api.MCall, f, api.Ask{}), api.Reply{Value: obj(0)})
	w.replies("P901", w.do(api.MConstruct, f, api.Ask{Receiver: f}), api.Reply{Value: obj(0)})
	w.replies("P901", w.do(api.MConstruct, p, api.Ask{Receiver: p}), api.Reply{Value: obj(0)})
}

func TestConstructOfCProxy(t *testing.T) {
	w := newWorld(t)
	f := w.function(api.Thing{Code: api.CProxy})
	list := []api.Value{number(1), number(2)}
	w.throwsError("P902: without a Caller", w.do(api.MConstruct, f, api.Ask{Receiver: f, List: list}), "TypeError")
	for _, receiver := range []api.Value{f, undefined, number(4)} {
		for _, r := range []api.Reply{{Value: f}, {Value: number(3)}, {Flow: api.Threw, Value: yes}, {Flow: api.TooDeep}} {
			c, from := w.record(r), len(w.Log())
			w.replies("P902", w.do(api.MConstruct, f, api.Ask{Receiver: receiver, List: list}), r)
			w.received("P902", c, recorded{w.thing(f), receiver, list})
			if got := len(w.Log()) - from; got > 1 {
				t.Errorf("P902: %d steps", got)
			}
		}
	}
}

func TestConstructOfCWritten(t *testing.T) {
	w := newWorld(t)
	base := w.plain(null)
	f := w.written(field("prototype", base, "w"))
	itself := w.plain(null, sides("prototype", w.function(api.Thing{Code: api.CThis}), undefined, ""))
	list := []api.Value{number(1), number(2)}
	for _, x := range []struct{ receiver, proto api.Value }{
		{f, base},
		{w.plain(f), base},
		{w.plain(null), null},
		{w.plain(null, field("prototype", number(3), "")), null},
		{w.plain(null, field("prototype", null, "")), null},
		{itself, itself},
	} {
		for _, told := range []api.Value{undefined, null, yes, number(7), str("a"), symbol(1), base} {
			c := w.record(api.Reply{Value: told})
			made := obj(w.Heap.Len())
			want := made
			if told == base {
				want = base
			}
			w.replies("P902", w.do(api.MConstruct, f, api.Ask{Receiver: x.receiver, List: list}), api.Reply{Value: want})
			w.received("P902", c, recorded{w.thing(f), made, list})
			if got := w.thing(made); show(got) != show(api.Thing{Proto: x.proto, Extensible: true}) {
				t.Errorf("P902: made is %+v, want the prototype %+v", got, x.proto)
			}
		}
	}
}

func TestConstructThatFails(t *testing.T) {
	w := newWorld(t)
	c := w.record(api.Reply{Value: number(1)})
	f := w.written()
	for _, v := range []api.Value{undefined, null, yes, number(0), str("a"), symbol(1)} {
		w.throwsError("P902: receiver", w.do(api.MConstruct, f, api.Ask{Receiver: v}), "TypeError")
	}
	bad := w.plain(null, sides("prototype", w.throws(number(4)), undefined, ""))
	before := w.Heap.Len()
	w.replies("P902: prototype", w.do(api.MConstruct, f, api.Ask{Receiver: bad}), api.Reply{Flow: api.Threw, Value: number(4)})
	w.received("P902", c)
	if w.Heap.Len() != before {
		t.Error("P902: an object is made all the same")
	}
	for _, r := range []api.Reply{{Flow: api.Threw, Value: f}, {Flow: api.NoFuel}, {Flow: api.TooDeep}} {
		w.record(r)
		w.replies("P902: abrupt", w.do(api.MConstruct, f, api.Ask{Receiver: f}), r)
	}
	w.Use(nil)
	w.throwsError("P902: without a Caller", w.do(api.MConstruct, f, api.Ask{Receiver: f}), "TypeError")

	full := world{New(api.Bounds{Fuel: 100, Room: 1, Deep: 9}), t}
	c = full.record(api.Reply{Value: number(1)})
	f = full.written()
	full.replies("P902: no room", full.do(api.MConstruct, f, api.Ask{Receiver: f}), api.Reply{Flow: api.NoRoom})
	full.received("P902", c)
}

func TestStepsOfConstruct(t *testing.T) {
	w := newWorld(t)
	w.record(api.Reply{})
	f := w.written()
	v := w.plain(f)
	w.do(api.MConstruct, f, api.Ask{Receiver: v, List: []api.Value{yes}})
	if got, want := w.steps(0), "getOwn 1 prototype, getProto 1, getOwn 0 prototype, getProto 0, get 0 prototype, get 1 prototype, construct 0"; got != want {
		t.Errorf("P902: %s", got)
		t.Errorf("want: %s", want)
	}
	checkAsks(t, w.Log())
	if got := w.Log()[5].Ask; show(got) != show(api.Ask{Key: name("prototype"), Receiver: v}) {
		t.Errorf("P902: the prototype is asked for by %+v", got)
	}
}

func TestBound(t *testing.T) {
	w := newWorld(t)
	f := w.written()
	args := []api.Value{number(1), number(2)}
	for _, bound := range [][]api.Value{nil, args[:1], args} {
		for _, list := range [][]api.Value{nil, {str("a")}, {str("a"), yes}} {
			b := w.add(api.Thing{Kind: api.Bound, Proto: null, Target: f, This: str("this"), Args: bound, Calls: true, Makes: true, Props: []api.Entry{field("x", yes, "")}})
			from := len(w.Log())
			c := w.record(api.Reply{Value: f})
			all := slices.Concat(bound, list)
			w.replies("P902", w.do(api.MCall, b, api.Ask{Receiver: null, List: list}), api.Reply{Value: f})
			w.received("P902: call", c, recorded{w.thing(f), str("this"), all})
			other := w.plain(null)
			for _, receiver := range []api.Value{other, b, f} {
				w.replies("P902", w.do(api.MConstruct, b, api.Ask{Receiver: receiver, List: list}), api.Reply{Value: f})
				w.received("P902: construct", c, recorded{w.thing(f), obj(w.Heap.Len() - 1), all})
			}
			var got []api.Ask
			for _, s := range w.Log()[from:] {
				if s.Thing == f.Num && s.Method >= api.MCall {
					got = append(got, s.Ask)
				}
			}
			want := []api.Ask{{Receiver: str("this"), List: all}, {Receiver: other, List: all}, {Receiver: f, List: all}, {Receiver: f, List: all}}
			if show(got) != show(want) {
				t.Errorf("P902: the target is asked %+v, want %+v", got, want)
			}
		}
	}
}

func TestBoundOfBound(t *testing.T) {
	w := newWorld(t)
	v := w.function(api.Thing{Code: api.CArg, N: 2})
	for i := range 3 {
		v = w.add(api.Thing{Kind: api.Bound, Target: v, This: number(i), Args: []api.Value{number(i)}, Calls: true})
	}
	w.replies("P902", w.do(api.MCall, v, api.Ask{List: []api.Value{yes}}), api.Reply{Value: number(2)})
	if got, want := w.steps(0), "call 0, call 1, call 2, call 3"; got != want {
		t.Errorf("P902: %s, want %s", got, want)
	}
}

// TestBoundToNothing: such an object is not valid, and is no object 0.
func TestBoundToNothing(t *testing.T) {
	w := newWorld(t)
	w.gives(yes)
	for _, target := range []api.Value{undefined, null, number(0), obj(-1), obj(5000)} {
		b := w.add(api.Thing{Kind: api.Bound, Target: target, Calls: true, Makes: true})
		w.throwsError("P902", w.do(api.MCall, b, api.Ask{}), "TypeError")
		w.throwsError("P902", w.do(api.MConstruct, b, api.Ask{Receiver: b}), "TypeError")
	}
}
