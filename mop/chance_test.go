package mop

import (
	"testing"

	"understudy/api"
)

// tally counts how calls ended, to see that chance has met enough.
type tally map[string]int

func (c tally) count(s *scene, l []api.Seen) {
	for _, e := range l {
		kind := s.kind(e.Thing)
		c[kind+" "+shortNames[e.Method]]++
	}
}

func (s *scene) kind(o int) string {
	if o >= len(s.things) {
		return "made"
	}
	return [...]string{"plain", "array", "function", "bound", "proxy", "error"}[s.things[o].Kind]
}

func (c tally) needs(t *testing.T, least int, kinds ...string) {
	t.Helper()
	for _, kind := range kinds {
		for m := api.MGetProto; m <= api.MConstruct; m++ {
			if m >= api.MCall && kind != "proxy" && kind != "function" && kind != "bound" {
				continue
			}
			if what := kind + " " + shortNames[m]; c[what] < least {
				t.Errorf("only %d times %s", c[what], what)
			}
		}
	}
}

// bounds are sometimes so small that they matter.
func (d *dice) bounds(s *scene) api.Bounds {
	b := api.Bounds{Fuel: 1500, Room: len(s.things) + 300, Deep: 40}
	if d.one(4) {
		b.Fuel = d.next(300)
	}
	if d.one(4) {
		b.Room = len(s.things) + d.next(8)
	}
	if d.one(4) {
		b.Deep = d.next(12)
	}
	return b
}

// TestAgainstTheModel: whatever handlers and functions do, replies, the log,
// fuel, depth and all objects are as in the model.
func TestAgainstTheModel(t *testing.T) {
	met, flows := tally{}, [8]int{}
	for seed := range 3000 {
		d := dice(seed)
		s := newScene(&d)
		b := d.bounds(s)
		w, m := s.world(b), s.model(b)
		for range 25 {
			x := s.action(&d)
			got, want := w.Do(x.m, x.o, x.a), m.Do(x.m, x.o, x.a)
			if !same(got, want) {
				t.Fatalf("scene %d: Do(%d, %d, %+v) = %+v, want %+v", seed, x.m, x.o, x.a, got, want)
			}
			flows[got.Flow]++
		}
		compareMachines(t, seed, w, m)
		met.count(s, w.Log())
	}
	met.needs(t, 60, "plain", "array", "function", "proxy", "bound")
	for _, flow := range []int{api.Done, api.Threw, api.NoFuel, api.NoRoom, api.TooDeep} {
		if flows[flow] < 100 {
			t.Errorf("only %d replies with the flow %d", flows[flow], flow)
		}
	}
}

func compareMachines(t *testing.T, seed int, a, b machine) {
	t.Helper()
	fuel, deepest := a.Left()
	wantFuel, wantDeepest := b.Left()
	if fuel != wantFuel || deepest != wantDeepest {
		t.Fatalf("scene %d: Left = %d, %d, want %d, %d", seed, fuel, deepest, wantFuel, wantDeepest)
	}
	l, want := a.Log(), b.Log()
	for i := range min(len(l), len(want)) {
		if !sameSeen(l[i], want[i]) {
			t.Fatalf("scene %d: the log has at %d %+v, want %+v", seed, i, l[i], want[i])
		}
	}
	if len(l) != len(want) || a.count() != b.count() {
		t.Fatalf("scene %d: %d steps and %d objects, want %d and %d", seed, len(l), a.count(), len(want), b.count())
	}
	for o := range a.count() {
		if got, want := a.get(o), b.get(o); !sameThing(got, want) {
			t.Fatalf("scene %d: the object %d is %+v, want %+v", seed, o, got, want)
		}
	}
}

// TestInvariants: the log satisfies the invariants of chapter 22.
func TestInvariants(t *testing.T) {
	met, judged := tally{}, 0
	for seed := range 800 {
		d := dice(seed + 10000)
		s := newScene(&d)
		w := s.world(api.Bounds{Fuel: 1500, Room: len(s.things) + 300, Deep: 40})
		closing := d.next(3)
		for i := range 40 {
			x := s.action(&d)
			if i < closing {
				x.m, x.o = api.MPrevent, pick(&d, s.plains)
			}
			w.Do(x.m, x.o, x.a)
		}
		l := w.Log()
		if i := firstViolation(l); i >= 0 {
			t.Fatalf("P906: scene %d: %s violates an invariant: %+v", seed, step(l[i]), l[i])
		}
		met.count(s, l)
		judged += len(l)
	}
	met.needs(t, 50, "plain", "array", "proxy")
	if judged < 50000 {
		t.Errorf("only %d steps", judged)
	}
}

// TestBoundsOfOneCall: greater bounds do not change a reply that no bound has
// caused, and each smaller one ends the call.
func TestBoundsOfOneCall(t *testing.T) {
	tried := 0
	for seed := range 300 {
		d := dice(seed + 20000)
		s := newScene(&d)
		x := s.action(&d)
		full := api.Bounds{Fuel: 3000, Room: len(s.things) + 500, Deep: 60}
		w := s.world(full)
		want := w.Do(x.m, x.o, x.a)
		if want.Flow > api.Threw {
			continue
		}
		left, deepest := w.Left()
		used, made := full.Fuel-left, w.count()
		try := func(b api.Bounds, enough bool, flow int) {
			t.Helper()
			w := s.world(b)
			r := w.Do(x.m, x.o, x.a)
			if enough && !same(r, want) || !enough && !same(r, api.Reply{Flow: flow}) {
				t.Fatalf("scene %d: with %+v: %+v; with %+v: %+v", seed, b, r, full, want)
			}
			tried++
		}
		for fuel := max(0, used-40); fuel < used+3; fuel++ {
			try(api.Bounds{Fuel: fuel, Room: full.Room, Deep: full.Deep}, fuel >= used, api.NoFuel)
		}
		for deep := range deepest + 3 {
			try(api.Bounds{Fuel: full.Fuel, Room: full.Room, Deep: deep}, deep >= deepest, api.TooDeep)
		}
		for room := len(s.things); room < made+3; room++ {
			try(api.Bounds{Fuel: full.Fuel, Room: room, Deep: full.Deep}, room >= made, api.NoRoom)
		}
	}
	if tried < 3000 {
		t.Errorf("only %d tries", tried)
	}
}

// TestTransparency: a proxy with an empty handler behaves like its target.
func TestTransparency(t *testing.T) {
	done := 0
	for seed := range 600 {
		d := dice(seed + 30000)
		s := newScene(&d)
		b := api.Bounds{Fuel: 1 << 20, Room: 5000, Deep: 500}
		direct, through := s.world(b), s.world(b)
		target := d.next(len(s.things))
		standIn := api.Thing{Kind: api.Proxy, Proto: null, Target: obj(target), Calls: direct.Calls(obj(target)), Makes: direct.Makes(obj(target))}
		handler, _ := direct.Heap.Make(api.Thing{Proto: null})
		through.Heap.Make(api.Thing{Proto: null})
		standIn.Handler = obj(handler)
		p, _ := direct.Heap.Make(standIn)
		through.Heap.Make(standIn)
		for range 20 {
			x := s.action(&d)
			x.a.Receiver = pick(&d, []api.Value{obj(target), x.a.Receiver})
			got, want := through.Do(x.m, p, x.a), direct.Do(x.m, target, x.a)
			if got.Flow > api.Threw || want.Flow > api.Threw {
				break
			}
			if !same(got, want) {
				t.Fatalf("W4: scene %d: Do(%d, %d, %+v) = %+v, want %+v", seed, x.m, target, x.a, got, want)
			}
			done++
		}
		for o := range min(direct.count(), through.count()) {
			if got, want := through.get(o), direct.get(o); !sameThing(got, want) && through.count() == direct.count() {
				t.Fatalf("W4: scene %d: the object %d is %+v, want %+v", seed, o, got, want)
			}
		}
	}
	if done < 5000 {
		t.Errorf("only %d calls", done)
	}
}
