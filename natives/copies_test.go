package natives

import (
	"slices"
	"testing"

	"understudy/api"
	"understudy/mop"
)

// spoil overwrites a list, also behind its end.
func spoil[T any](l []T, with T) {
	l = l[:cap(l)]
	for i := range l {
		l[i] = with
	}
}

// spoiling is a Caller that overwrites what it is given.
func spoiling(n *Natives) callerFunc {
	return func(w *mop.World, f api.Thing, this api.Value, args []api.Value) api.Reply {
		r := n.Call(w, f, this, args)
		spoil(args, str("spoilt"))
		spoil(f.Props, field("spoilt", yes, ""))
		spoil(f.Args, str("spoilt"))
		return r
	}
}

// roomy is l with something behind its end.
func roomy[T any](l []T, with T) []T {
	return append(slices.Clone(l), with, with, with)[:len(l)]
}

// TestArgumentsAreLeftAlone: neither the arguments nor the function nor what is
// behind their lists changes, whatever a Caller does to its own.
func TestArgumentsAreLeftAlone(t *testing.T) {
	for _, code := range append(codes(), 0) {
		for i := range newWorld(t).goodCalls(code) {
			w := newWorld(t)
			w.Use(spoiling(w.n))
			c := w.goodCalls(code)[i]
			args, props := roomy(c.args, number(5)), roomy([]api.Entry{field("a", no, "")}, field("z", yes, "w"))
			bound := roomy(list(yes, no), number(6))
			c.f.Props, c.f.Args = props, bound
			before := show([]any{args[:cap(args)], props[:cap(props)], bound[:cap(bound)]})
			for range 2 {
				w.n.Call(w.World, c.f, c.this, args)
			}
			if after := show([]any{args[:cap(args)], props[:cap(props)], bound[:cap(bound)]}); after != before {
				t.Errorf("P1802: Code %d changes its arguments from %s to %s", code, before, after)
			}
		}
	}
}

// TestArgumentsAreNotKept: what becomes of the arguments afterwards changes
// neither the log nor the objects nor the lines.
func TestArgumentsAreNotKept(t *testing.T) {
	for _, code := range codes() {
		for i := range newWorld(t).goodCalls(code) {
			w := newWorld(t)
			c := w.goodCalls(code)[i]
			args := roomy(c.args, number(5))
			c.f.Props, c.f.Args = []api.Entry{field("a", no, "")}, list(yes)
			r := w.n.Call(w.World, c.f, c.this, args)
			told := func() string { return show([]any{r, w.Log(), w.objects(), w.n.Out}) }
			before := told()
			spoil(args, str("spoilt"))
			spoil(c.f.Props, field("spoilt", yes, ""))
			spoil(c.f.Args, str("spoilt"))
			if after := told(); after != before {
				t.Errorf("P1802: Code %d keeps its arguments: %s, was %s", code, after, before)
			}
		}
	}
}

// TestBoundArguments: those of two bound functions are their own.
func TestBoundArguments(t *testing.T) {
	w := newWorld(t)
	args := roomy(list(yes, number(1), number(2)), number(3))
	f := w.gives(yes)
	one, two := w.call(api.CBind, f, args...).Value, w.call(api.CBind, f, args[:2]...).Value
	x := w.thing(one)
	spoil(x.Args, no)
	if a, b := w.thing(one).Args, w.thing(two).Args; !slices.Equal(a, list(number(1), number(2))) || !slices.Equal(b, list(number(1))) {
		t.Errorf("P1802: the arguments are %+v and %+v", a, b)
	}
}

// TestTheSameCallsGiveTheSame: two worlds are independent, and a call hangs on
// nothing but its own.
func TestTheSameCallsGiveTheSame(t *testing.T) {
	for seed := range 200 {
		one, two, other := newScene(t, seed, plenty()), newScene(t, seed, plenty()), newScene(t, seed+1, plenty())
		d, e := dice(seed), dice(seed)
		for range 12 {
			f, this, args := someCall(&d)
			a := one.n.Call(one.World, f, this, args)
			other.n.Call(other.World, f, this, args)
			(&Natives{}).Call(nil, f, this, args)
			f, this, args = someCall(&e)
			b := two.n.Call(two.World, f, this, args)
			two.replies("P1802: the same call", b, a)
		}
		one.sameAs(two, "P1802: the same calls", api.Reply{}, api.Reply{})
	}
}
