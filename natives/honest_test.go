package natives

import (
	"fmt"
	"slices"
	"strings"
	"testing"

	"understudy/api"
	"understudy/mop"
	"understudy/reflect"
)

// The objects of a play. Of all but the target and what belongs to the proxy
// there are some for each sort.
const (
	theTarget  = 0
	theHandler = 1
	theProxy   = 2
	playMethod = 3  // functions of Reflect, one for each method
	playPlain  = 16 // with the target as prototype from the second half on
	playFn     = 22
	nPlayers   = 34
)

// play is a world in which self is either the target or a proxy of it, whose
// traps do on the target what the methods are asked.
type play struct {
	world
	self api.Value
}

func newPlay(t *testing.T, seed int, traps func(m int) bool) play {
	p := play{newWorld(t), obj(theTarget)}
	if traps != nil {
		p.self = obj(theProxy)
	}
	d := dice(seed)
	p.add(p.newTarget(&d))
	handler := api.Thing{Proto: null, Extensible: true}
	for m := api.MGetProto; m <= api.MConstruct; m++ {
		if traps != nil && traps(m) {
			handler.Props = append(handler.Props, field(reflect.Trap(m), obj(playMethod+m-1), "w"))
		}
	}
	p.add(handler)
	p.proxy(obj(theTarget), obj(theHandler))
	for m := api.MGetProto; m <= api.MConstruct; m++ {
		p.function(api.CReflect+m, 0, undefined)
	}
	for i := range playFn - playPlain {
		proto := null
		if i >= (playFn-playPlain)/2 {
			proto = p.self
		}
		p.add(api.Thing{Proto: proto, Extensible: !d.one(4), Props: p.props(&d)})
	}
	for range nPlayers - playFn {
		code := pick(&d, append(codes(), api.CThis, api.CConst, api.CThrow, api.CArg, api.CWritten, api.CWritten))
		if code == api.CRevoke || code == api.CReflect+api.MSetProto { // where self is a proxy, a ring through it goes unseen
			code = api.CArg
		}
		p.function(code, 0, p.value(&d))
	}
	p.Use(callerFunc(func(w *mop.World, f api.Thing, this api.Value, args []api.Value) api.Reply {
		if f.Code != api.CWritten {
			return p.n.Call(w, f, this, args)
		}
		return result(w.Array(append(list(this), args...)))
	}))
	return p
}

// newTarget is an object of any kind that can have a proxy.
func (p play) newTarget(d *dice) api.Thing {
	x := api.Thing{Proto: pick(d, []api.Value{null, obj(playPlain)}), Extensible: !d.one(3), V: p.value(d)}
	switch d.next(5) {
	case 0:
		x.Kind, x.Props = api.Array, elements([]api.Value{p.value(d), p.value(d)}[:d.next(3)]...)
		return x
	case 1, 2:
		x.Kind, x.Code = api.Function, pick(d, []int{api.CWritten, api.CProxy, api.CThis, api.CArg, api.CThrow, api.CIsArray, api.CKeys, api.CPrint})
	case 3:
		x.Kind, x.Calls, x.This, x.Target = api.Bound, true, p.value(d), p.fn(d)
	}
	x.Props = p.props(d)
	return x
}

func (p play) props(d *dice) []api.Entry {
	var l []api.Entry
	loose := pick(d, [][]string{{"wec", "wc", "w", "", "ec"}, {"e", "w", ""}, {"e", ""}})
	for _, k := range []string{"a", "b", "prototype", "1", "0"} {
		signs := pick(d, loose)
		switch d.next(4) {
		case 0:
			l = append(l, sides(k, pick(d, []api.Value{undefined, p.fn(d)}), pick(d, []api.Value{undefined, p.fn(d)}), signs))
		case 1, 2:
			l = append(l, field(k, p.value(d), signs))
		}
	}
	if d.one(2) {
		l = append(l, marked(1, p.value(d), "we"))
	}
	return l
}

func (p play) fn(d *dice) api.Value { return obj(playFn + d.next(nPlayers-playFn)) }

func (p play) value(d *dice) api.Value {
	return pick(d, []api.Value{
		undefined, null, yes, number(1), str(""), str("a"), symbol(1),
		p.self, p.self, obj(playPlain + d.next(playFn-playPlain)), p.fn(d),
	})
}

// arguments are those of a function.
func (p play) arguments(d *dice, code int) []api.Value {
	l := list(p.self, p.value(d), p.value(d), p.value(d))
	if d.one(4) || code == api.CCall {
		l[0] = p.value(d)
	}
	if d.one(2) {
		l[1] = pick(d, []api.Value{str("a"), str("b"), number(0), number(1), symbol(1), obj(playPlain)})
	}
	return l[:d.next(5)]
}

// story performs functions and tells what they reply and print, and what
// becomes of the target.
func (p play) story(seed int) []string {
	var l []string
	d := dice(seed)
	for range 25 {
		code := pick(&d, codes())
		if d.one(2) {
			code = api.CPrint + d.next(api.CKeys-api.CPrint+1)
		}
		if code == api.CReflect+api.MSetProto || code == api.CRevoke {
			continue
		}
		this, args := pick(&d, list(p.self, p.self, p.fn(&d))), p.arguments(&d, code)
		r := p.call(code, this, args...)
		if show(r) != show(api.Reply{Flow: r.Flow, Value: r.Value}) {
			p.t.Errorf("%s: %+v has more than a value", describe(code, this, args), r)
		}
		l = append(l, fmt.Sprint(code, " ", r.Flow, " ", p.tell(r.Value, 4)))
	}
	return append(l, p.contents(obj(theTarget), 3), show(p.n.Out))
}

// tell tells what a value is, where the target and its proxy are the same, and
// a new object is what it contains.
func (p play) tell(v api.Value, deep int) string {
	if v == p.self {
		return "self"
	}
	if v.Kind != api.Object || v.Num < nPlayers {
		return show(v)
	}
	if deep == 0 {
		return "new"
	}
	return p.contents(v, deep)
}

func (p play) contents(v api.Value, deep int) string {
	x := p.thing(v)
	l := append(list(x.Proto, x.V, x.Target, x.Handler, x.This), x.Args...)
	text := []string{fmt.Sprint(x.Kind, x.Code, x.N, x.Extensible, x.Calls, x.Makes)}
	for _, e := range x.Props {
		l = append(l, e.Desc.Value, e.Desc.Get, e.Desc.Set)
		e.Desc.Value, e.Desc.Get, e.Desc.Set = undefined, undefined, undefined
		text = append(text, show(e))
	}
	for _, v := range l {
		text = append(text, p.tell(v, deep-1))
	}
	return "{" + strings.Join(text, " ") + "}"
}

// TestHonestHandlers (W4): to the built-in functions, a proxy whose traps are
// the functions of Reflect, or some of them, or none, is like its target.
func TestHonestHandlers(t *testing.T) {
	flows := map[string]int{}
	for seed := range 1000 {
		direct := newPlay(t, seed, nil).story(seed)
		for i, traps := range []func(m int) bool{
			func(m int) bool { return false },
			func(m int) bool { return true },
			func(m int) bool { return seed>>(m%10)&1 == 1 },
		} {
			if got := newPlay(t, seed, traps).story(seed); !slices.Equal(got, direct) {
				for j := range got {
					if got[j] != direct[j] {
						t.Fatalf("seed %d, handler %d, call %d:\n%s\nthrough a proxy, and directly\n%s", seed, i, j, got[j], direct[j])
					}
				}
			}
		}
		for _, s := range direct[:len(direct)-2] {
			flows[strings.Join(strings.Fields(s)[:2], " ")]++
		}
	}
	for code := api.CPrint; code <= api.CKeys; code++ {
		if flows[fmt.Sprint(code, " 0")] < 100 {
			t.Errorf("Code %d is done %d times alone", code, flows[fmt.Sprint(code, " 0")])
		}
	}
}
