package mop

import (
	"slices"
	"testing"

	"understudy/api"
)

// spoil overwrites a list, also behind its end.
func spoil[T any](l []T, with T) {
	l = l[:cap(l)]
	for i := range l {
		l[i] = with
	}
}

// roomy is a list with spare capacity.
func roomy() []api.Value {
	return []api.Value{number(1), number(2), number(3), number(4)}[:2]
}

func spoilSeen(l []api.Seen) {
	for _, s := range l {
		spoil(s.Ask.List, str("spoilt"))
		spoil(s.Reply.Keys, name("spoilt"))
	}
	spoil(l, api.Seen{Method: 99})
}

// callers are the functions that get a list: of each kind, and by each way.
func callers(w world) []api.Value {
	f := w.custom()
	return []api.Value{
		f, w.function(api.Thing{Code: api.CArg}),
		w.add(api.Thing{Kind: api.Bound, Proto: null, Target: f, Args: roomy(), Calls: true}),
		w.add(api.Thing{Kind: api.Bound, Proto: null, Target: f, Calls: true}),
		w.proxy(f, w.plain(null)), w.proxy(f, w.plain(null, field("apply", f, ""))),
	}
}

func TestArgumentsAreLeftAlone(t *testing.T) {
	w := newWorld(t)
	w.Use(callerFunc(func(_ *World, f api.Thing, _ api.Value, args []api.Value) api.Reply {
		spoil(args, str("spoilt"))
		spoil(f.Props, field("spoilt", no, ""))
		spoil(f.Args, str("spoilt"))
		return api.Reply{}
	}))
	for _, v := range callers(w) {
		list, before, from := roomy(), w.thing(v), len(w.Log())
		for range 2 {
			w.do(api.MCall, v, api.Ask{List: list})
		}
		if !slices.Equal(list[:4], roomy()[:4]) {
			t.Errorf("P906: the list becomes %+v", list[:4])
		}
		if !sameThing(w.thing(v), before) {
			t.Errorf("P906: the object becomes %+v", w.thing(v))
		}
		for _, s := range w.Log()[from:] {
			if slices.Contains(s.Ask.List, str("spoilt")) {
				t.Errorf("P901: the log has %+v", s)
			}
		}
	}
	list := roomy()
	w.Array(list)
	if !slices.Equal(list[:4], roomy()[:4]) {
		t.Errorf("P906: the list becomes %+v", list[:4])
	}
}

func TestArgumentsAreNotKept(t *testing.T) {
	w := newWorld(t)
	w.record(api.Reply{})
	for _, v := range callers(w) {
		list := roomy()
		w.do(api.MCall, v, api.Ask{List: list})
		before := w.Log()
		spoil(list, str("spoilt"))
		for i, s := range w.Log() {
			if !sameSeen(s, before[i]) {
				t.Errorf("P906: the log keeps the list it is given: %+v", s)
			}
		}
	}
	list := roomy()
	v, _ := w.Array(list)
	spoil(list, str("spoilt"))
	if got, _ := w.List(v); !slices.Equal(got, roomy()) {
		t.Errorf("P906: an array keeps the list it is given: %+v", got)
	}
}

// TestListsDuringACall: what the Caller does to the list that Do was given
// does not matter for the log.
func TestListsDuringACall(t *testing.T) {
	w := newWorld(t)
	f, list := w.custom(), roomy()
	w.Use(callerFunc(func(*World, api.Thing, api.Value, []api.Value) api.Reply {
		list[0] = str("spoilt")
		return api.Reply{}
	}))
	w.do(api.MCall, f, api.Ask{List: list})
	if got := w.Log()[0].Ask.List; !slices.Equal(got, roomy()) {
		t.Errorf("P901: the log has %+v", got)
	}
}

func TestResultsAreNew(t *testing.T) {
	w := newWorld(t)
	w.record(api.Reply{})
	target := w.plain(null, field("a", yes, "wec"), field("b", yes, "wec"))
	list := w.array(str("a"), str("b"))
	p := w.proxy(target, w.plain(null, field("ownKeys", w.gives(list), "")))
	q := w.proxy(p, w.plain(null))
	want := api.Reply{Keys: []api.Key{name("a"), name("b")}}
	for _, v := range []api.Value{target, p, q} {
		for range 2 {
			r := w.do(api.MKeys, v, api.Ask{})
			w.replies("P904", r, want)
			spoil(r.Keys, name("spoilt"))
		}
	}
	for _, s := range w.Log() {
		if s.Method == api.MKeys && !same(s.Reply, want) {
			t.Errorf("P906: the log shares %+v with a reply", s)
		}
	}
	first, _ := w.List(list)
	spoil(first, str("spoilt"))
	if again, _ := w.List(list); !slices.Equal(again, []api.Value{str("a"), str("b")}) {
		t.Errorf("P906: List = %+v", again)
	}
}

func TestTheLogIsACopy(t *testing.T) {
	w := newWorld(t)
	w.record(api.Reply{})
	for _, v := range callers(w) {
		w.do(api.MCall, v, api.Ask{List: roomy()})
		w.do(api.MKeys, w.plain(null, field("a", v, ""), field("b", v, "")), api.Ask{List: roomy()})
	}
	before := show(w.Log())
	spoilSeen(w.Log())
	if show(w.Log()) != before {
		t.Error("P906: a change of what Log returned changes the log")
	}
	// Two lists of one log share nothing either.
	for i := range w.Log() {
		l := w.Log()
		keep := show(l[i])
		for j, s := range l {
			if j != i {
				spoil(s.Ask.List, str("spoilt"))
				spoil(s.Reply.Keys, name("spoilt"))
			}
		}
		if got := show(l[i]); got != keep {
			t.Errorf("P906: two elements of the log share a list: %s", got)
		}
	}
}

func TestTwoWorldsAreIndependent(t *testing.T) {
	for seed := range 50 {
		d := dice(seed + 40000)
		s := newScene(&d)
		b := api.Bounds{Fuel: 1500, Room: len(s.things) + 100, Deep: 30}
		alone, one, two := s.world(b), s.world(b), s.world(b)
		var acts []action
		for range 20 {
			acts = append(acts, s.action(&d))
		}
		for _, x := range acts {
			alone.Do(x.m, x.o, x.a)
		}
		for i, x := range acts {
			one.Do(x.m, x.o, x.a)
			x = acts[len(acts)-1-i]
			two.Do(x.m, x.o, x.a)
		}
		compareMachines(t, seed, one, alone)
	}
}

// TestTheSameCallsGiveTheSame: asking is no call that matters.
func TestTheSameCallsGiveTheSame(t *testing.T) {
	for seed := range 50 {
		play := func(asked bool) machine {
			d := dice(seed + 50000)
			s := newScene(&d)
			w := s.world(api.Bounds{Fuel: 1500, Room: len(s.things) + 100, Deep: 30})
			for range 20 {
				x := s.action(&d)
				w.Do(x.m, x.o, x.a)
				if asked {
					w.Log()
					w.Left()
					w.Calls(obj(x.o))
					w.Makes(obj(x.o))
				}
			}
			return w
		}
		compareMachines(t, seed, play(true), play(false))
	}
}
