package reflect

import (
	"fmt"
	"slices"
	"strings"
	"testing"

	"understudy/api"
	"understudy/mop"
)

// dice is a row of numbers that looks like chance, and is always the same.
type dice uint64

func (d *dice) next(n int) int {
	*d = *d*6364136223846793005 + 1442695040888963407
	return int(uint64(*d)>>33) % n
}

func (d *dice) one(in int) bool { return d.next(in) == 0 }

func pick[T any](d *dice, l []T) T { return l[d.next(len(l))] }

// The objects of a play. Of all but the target and what belongs to the proxy
// there are some for each sort.
const (
	theTarget  = 0
	theHandler = 1
	theProxy   = 2
	firstTrap  = 3  // one for each method
	firstPlain = 16 // with the target as prototype from the second half on
	firstFn    = 22
	firstList  = 27
	firstDesc  = 30
	nObjects   = 36
)

// play is a world in which self is either the target or a proxy of it, whose
// traps do on the target what the methods are asked.
type play struct {
	world
	self api.Value
}

func newPlay(t *testing.T, seed int, traps func(m int) bool) play {
	p := play{newWorld(t), obj(theTarget)}
	if traps != nil {
		p.self = obj(theProxy)
	}
	d := dice(seed)
	p.add(p.newTarget(&d))
	handler := api.Thing{Proto: null, Extensible: true}
	for m := api.MGetProto; m <= api.MConstruct; m++ {
		if traps != nil && traps(m) {
			handler.Props = append(handler.Props, field(Trap(m), obj(firstTrap+m-1), "w"))
		}
	}
	p.add(handler)
	p.proxy(obj(theTarget), obj(theHandler))
	for m := api.MGetProto; m <= api.MConstruct; m++ {
		p.function(api.CReflect+m, 0, undefined)
	}
	for i := range firstFn - firstPlain {
		proto := null
		if i >= (firstFn-firstPlain)/2 {
			proto = p.self
		}
		p.add(api.Thing{Proto: proto, Extensible: !d.one(4), Props: p.props(&d)})
	}
	for _, code := range []int{api.CThis, api.CConst, api.CThrow, api.CWritten, api.CWritten} {
		p.function(code, 0, p.value(&d), field("prototype", p.value(&d), "w"))
	}
	for range firstDesc - firstList {
		p.array([]api.Value{p.value(&d), p.value(&d), p.value(&d)}[:d.next(4)]...)
	}
	for range nObjects - firstDesc {
		p.plain(null, p.describing(&d)...)
	}
	p.Use(callerFunc(perform))
	return p
}

// newTarget is an object of any kind that can have a proxy. It has no bound
// function that is a constructor: this takes itself as the new target for
// another one than its proxy.
func (p play) newTarget(d *dice) api.Thing {
	x := api.Thing{Proto: pick(d, []api.Value{null, obj(firstPlain)}), Extensible: !d.one(4), V: p.value(d)}
	switch d.next(5) {
	case 0:
		x.Kind, x.Props = api.Array, elements([]api.Value{p.value(d), p.value(d)}[:d.next(3)]...)
		if d.one(3) {
			x.Props[0].Desc.Writable = false
		}
		return x
	case 1:
		x.Kind, x.Code = api.Function, pick(d, []int{api.CWritten, api.CProxy, api.CThis, api.CConst, api.CThrow})
	case 2:
		x.Kind, x.Calls, x.This, x.Target = api.Bound, true, p.value(d), obj(firstFn+d.next(5))
	}
	x.Props = p.props(d)
	return x
}

func (p play) props(d *dice) []api.Entry {
	var l []api.Entry
	for _, k := range []string{"a", "b", "prototype", "1", "0"} {
		signs := pick(d, []string{"wec", "wec", "w", "", "ec"})
		switch d.next(4) {
		case 0:
			l = append(l, sides(k, pick(d, []api.Value{undefined, p.fn(d)}), pick(d, []api.Value{undefined, p.fn(d)}), signs))
		case 1, 2:
			l = append(l, field(k, p.value(d), signs))
		}
	}
	if d.one(2) {
		e := field("", p.value(d), "wec")
		e.Key = api.Key{Sym: 1}
		l = append(l, e)
	}
	return l
}

func (p play) describing(d *dice) []api.Entry {
	var l []api.Entry
	add := func(in int, k string, v api.Value) {
		if d.one(in) {
			l = append(l, field(k, v, "wec"))
		}
	}
	if d.one(3) {
		add(2, "get", pick(d, []api.Value{undefined, p.fn(d), p.fn(d), null}))
		add(2, "set", pick(d, []api.Value{undefined, p.fn(d)}))
	} else {
		add(2, "value", p.value(d))
		add(2, "writable", p.value(d))
	}
	add(8, "get", p.fn(d))
	add(2, "enumerable", p.value(d))
	add(2, "configurable", pick(d, []api.Value{yes, yes, no}))
	return l
}

func (p play) fn(d *dice) api.Value { return obj(firstFn + d.next(5)) }

func (p play) value(d *dice) api.Value {
	return pick(d, []api.Value{
		undefined, null, yes, no, number(0), number(1), number(3), str(""), str("a"), symbol(1),
		p.self, obj(firstPlain + d.next(6)), p.fn(d), obj(firstList + d.next(3)), obj(firstDesc + d.next(6)),
	})
}

func (p play) key(d *dice) api.Value {
	return pick(d, []api.Value{str("a"), str("a"), str("b"), str("b"), str("prototype"), number(0), number(1), number(4), str("length"), symbol(1), symbol(2), undefined, p.self})
}

// arguments are those of a function for m.
func (p play) arguments(d *dice, m int) []api.Value {
	l := list(p.self)
	if d.one(4) {
		l[0] = p.value(d)
	}
	switch m {
	case api.MSetProto:
		// Where self is a proxy, a ring through it goes unseen.
		return append(l, pick(d, []api.Value{undefined, null, null, yes, obj(firstPlain), obj(firstPlain + 1)}))
	case api.MDefine:
		l = append(l, p.key(d), obj(firstDesc+d.next(6)), p.value(d))
	case api.MCall:
		l = append(l, p.value(d), obj(firstList+d.next(3)), p.value(d))
	case api.MConstruct:
		l = append(l, obj(firstList+d.next(3)), pick(d, []api.Value{p.self, p.self, obj(firstFn + 3), p.value(d)}))
	default:
		l = append(l, p.key(d), p.value(d), p.value(d))
	}
	return l[:1+d.next(len(l))]
}

// perform performs the functions of a play. CProxy makes an object, as it must.
func perform(w *mop.World, f api.Thing, this api.Value, args []api.Value) api.Reply {
	if m := f.Code - api.CReflect; api.MGetProto <= m && m <= api.MConstruct {
		return Call(w, m, args)
	}
	if f.V.Kind == api.Null && f.Code != api.CProxy {
		return api.Reply{}
	}
	v, r := w.Array(append(list(f.V, this), args...))
	return result(v, r)
}

// tell tells what a value is, where the target and its proxy are the same, and
// a new object is what it contains.
func (p play) tell(v api.Value, deep int) string {
	if v == p.self {
		return "self"
	}
	if v.Kind != api.Object || v.Num < nObjects || deep == 0 {
		return show(v)
	}
	return p.contents(v, deep)
}

func (p play) contents(v api.Value, deep int) string {
	x := p.thing(v)
	l := append(list(x.Proto, x.V, x.Target, x.Handler, x.This), x.Args...)
	text := []string{fmt.Sprint(x.Kind, x.Code, x.N, x.Extensible, x.Calls, x.Makes)}
	for _, e := range x.Props {
		l = append(l, e.Desc.Value, e.Desc.Get, e.Desc.Set)
		e.Desc.Value, e.Desc.Get, e.Desc.Set = undefined, undefined, undefined
		text = append(text, show(e))
	}
	for _, v := range l {
		text = append(text, p.tell(v, deep-1))
	}
	return "{" + strings.Join(text, " ") + "}"
}

const nCalls = 25

// story performs functions and tells what they reply, and what becomes of the
// target.
func (p play) story(seed int) []string {
	var l []string
	d := dice(seed)
	for range nCalls {
		m := 1 + d.next(13)
		args := p.arguments(&d, m)
		r := Call(p.World, m, args)
		if r.OK || r.Has || r.Desc != (api.Desc{}) || r.Keys != nil {
			p.t.Errorf("%s: %+v has more than a value", describe(m, args), r)
		}
		l = append(l, fmt.Sprint(Name(m), " ", r.Flow, " ", p.tell(r.Value, 4)))
	}
	return append(l, p.contents(obj(theTarget), 3))
}

// TestHonestHandlers: a proxy whose traps are the functions of Reflect, or some
// of them, or none, is like its target.
func TestHonestHandlers(t *testing.T) {
	flows := map[string]int{}
	for seed := range 1000 {
		direct := newPlay(t, seed, nil).story(seed)
		for i, traps := range []func(m int) bool{
			func(m int) bool { return false },
			func(m int) bool { return true },
			func(m int) bool { return seed>>(m%10)&1 == 1 },
		} {
			if got := newPlay(t, seed, traps).story(seed); !slices.Equal(got, direct) {
				for j := range got {
					if got[j] != direct[j] {
						t.Fatalf("seed %d, handler %d, call %d:\n%s\nthrough a proxy, and directly\n%s", seed, i, j, got[j], direct[j])
					}
				}
			}
		}
		for _, s := range direct[:nCalls] {
			flows[strings.Join(strings.Fields(s)[:2], " ")]++
		}
	}
	for m := api.MGetProto; m <= api.MConstruct; m++ {
		for flow := range 2 {
			if what := fmt.Sprint(Name(m), " ", flow); flows[what] < 50 {
				t.Errorf("%s occurs %d times alone", what, flows[what])
			}
		}
	}
}
