package integrity

import (
	"testing"

	"understudy/api"
)

// TestTheSameCallsGiveTheSame: two worlds are independent, and a call hangs on
// nothing but its own.
func TestTheSameCallsGiveTheSame(t *testing.T) {
	for seed := range 200 {
		one, two := newScene(t, seed, plenty()), newScene(t, seed, plenty())
		other := newScene(t, seed+1, plenty())
		for i := range 16 {
			what, o := calls()[(seed+i)%4], (seed*5+i*7)%nObjects
			a := one.call(what, obj(o))
			other.call(calls()[i%4], obj(i*3))
			(world{nil, t}).call(what, obj(o))
			b := two.call(what, obj(o))
			if show(a) != show(b) {
				t.Fatalf("P1103: seed %d: %s of %d: %+v and %+v", seed, what, o, a, b)
			}
		}
		one.same("P1103", two)
	}
}

// TestHonestHandlers: a proxy whose traps do what they are asked, or that has
// none, is like its target.
func TestHonestHandlers(t *testing.T) {
	for seed := range 300 {
		direct := story(t, seed, func(w world, o api.Value) api.Value { return o })
		for i, stand := range []func(w world, o api.Value) api.Value{
			func(w world, o api.Value) api.Value { return w.proxy(o, w.plain(null)) },
			func(w world, o api.Value) api.Value { return w.proxy(o, w.honest()) },
			func(w world, o api.Value) api.Value { return w.proxy(w.proxy(o, w.honest()), w.honest()) },
		} {
			if got := story(t, seed, stand); got != direct {
				t.Fatalf("P1103: seed %d, proxy %d:\n%s, and directly\n%s", seed, i, got, direct)
			}
		}
	}
}

// story tells what calls on what stands for an object reply, and what becomes
// of the object.
func story(t *testing.T, seed int, stand func(w world, o api.Value) api.Value) string {
	w := newScene(t, seed, plenty())
	o := obj(firstPlain + seed%8)
	v := stand(w, o)
	d := dice(seed)
	var l []string
	for range 5 {
		what := pick(&d, calls())
		l = append(l, what, show(w.call(what, v)), show(w.thing(o)))
	}
	return show(l)
}

// TestRepliesAreAlone: a reply has nothing but OK, and the log keeps what it
// has when calls follow.
func TestRepliesAreAlone(t *testing.T) {
	w := newWorld(t)
	for _, v := range w.kinds(field("a", yes, "wec")) {
		for _, what := range []string{"sealed", "seal", "frozen", "freeze"} {
			r := w.call(what, v)
			if show(r) != show(api.Reply{OK: what == "seal" || what == "freeze"}) {
				t.Errorf("P1103: %s of %v: %+v", what, v, r)
			}
			log := w.Log()
			before := show(log)
			w.call("sealed", v)
			if after := show(w.Log()[:len(log)]); after != before || show(log) != before {
				t.Errorf("P1103: the log\n%s becomes\n%s", before, after)
			}
		}
	}
}
