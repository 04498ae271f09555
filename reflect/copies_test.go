package reflect

import (
	"slices"
	"testing"

	"understudy/api"
	"understudy/mop"
)

// TestArgumentsAreLeftAlone: neither the arguments nor what is behind them
// changes, whatever a Caller does to its own.
func TestArgumentsAreLeftAlone(t *testing.T) {
	for m := range 15 {
		s := newStage(t)
		s.Use(callerFunc(func(_ *mop.World, f api.Thing, _ api.Value, args []api.Value) api.Reply {
			spoil(args, str("spoilt"))
			return api.Reply{}
		}))
		for _, args := range append(argumentsFor(s, m), list(s.target), nil) {
			whole := append(slices.Clone(args), number(1), number(2), number(3))
			before := slices.Clone(whole)
			Call(s.World, m, whole[:len(args)])
			Call(s.World, m, whole[:len(args)])
			if !slices.Equal(whole, before) {
				t.Errorf("P1003: Call of %d with %+v changes them to %+v", m, before, whole)
			}
		}
	}
}

// TestArgumentsAreNotKept: what becomes of the arguments afterwards changes
// neither the log nor the objects.
func TestArgumentsAreNotKept(t *testing.T) {
	for m := api.MGetProto; m <= api.MConstruct; m++ {
		s := newStage(t)
		s.Use(callerFunc(func(w *mop.World, _ api.Thing, _ api.Value, args []api.Value) api.Reply {
			v, r := w.Array(args)
			return result(v, r)
		}))
		for _, args := range argumentsFor(s, m) {
			r := Call(s.World, m, args)
			objects := func() (l []api.Thing) {
				for o := range s.Heap.Len() {
					l = append(l, s.thing(obj(o)))
				}
				return l
			}
			reply, log, all := show(r), show(s.Log()), show(objects())
			spoil(args, str("spoilt"))
			if show(r) != reply || show(s.Log()) != log || show(objects()) != all {
				t.Errorf("P1003: Call of %d keeps its arguments", m)
			}
		}
	}
}

// TestTheSameCallsGiveTheSame: two worlds are independent, and a call hangs on
// nothing but its own.
func TestTheSameCallsGiveTheSame(t *testing.T) {
	for seed := range 100 {
		one, two := newPlay(t, seed, func(int) bool { return true }), newPlay(t, seed, func(int) bool { return true })
		other := newPlay(t, seed+1, nil)
		d, e := dice(seed), dice(seed)
		for range nCalls {
			m := 1 + d.next(13)
			a := Call(one.World, m, one.arguments(&d, m))
			Call(other.World, 1+m%13, list(other.self, str("a"), yes))
			Call(nil, m, list(one.self))
			b := Call(two.World, 1+e.next(13), two.arguments(&e, m))
			if show(a) != show(b) {
				t.Fatalf("P1003: seed %d: Call of %d replies %+v and %+v", seed, m, a, b)
			}
		}
		if show(one.Log()) != show(two.Log()) {
			t.Errorf("P1003: seed %d: the same calls leave two logs", seed)
		}
	}
}
