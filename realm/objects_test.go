package realm

import (
	"math"
	"testing"

	"understudy/api"
	"understudy/mop"
)

// makesObject checks that Object creates the next object and does nothing else.
func (w world) makesObject() int {
	w.t.Helper()
	before := w.objects()
	var o int
	w.quiet("P1902: Object", func() {
		var ok bool
		if o, ok = Object(w.World); o != len(before) || !ok {
			w.t.Fatalf("P1902: Object = %d, %v, want %d, true", o, ok, len(before))
		}
	})
	w.has("P1902: Object", append(before, api.Thing{Kind: api.Plain, Proto: obj(0), Extensible: true}))
	return o
}

func TestObject(t *testing.T) {
	w := built(t)
	for range 20 {
		w.makesObject()
	}
}

func TestObjectWithoutRoom(t *testing.T) {
	for _, room := range []int{math.MinInt, -1, 0, 1, 2, 5, 31, 32, 33, 40} {
		w := empty(t, api.Bounds{Fuel: 100, Room: room, Deep: 10})
		w.build()
		for w.Heap.Len() < room {
			w.makesObject()
		}
		before := w.objects()
		for range 3 {
			w.quiet("P1902: Object", func() {
				if o, ok := Object(w.World); o != 0 || ok {
					t.Fatalf("P1902: Object without room = %d, %v", o, ok)
				}
			})
		}
		w.has("P1902: Object without room", before)
	}
}

// TestObjectsWithoutFuel: an object takes no step.
func TestObjectsWithoutFuel(t *testing.T) {
	for _, b := range []api.Bounds{{Room: 90}, {Fuel: -1, Room: 90, Deep: -1}, {Fuel: 1, Room: 90}, {Room: 90, Deep: 1}} {
		w := empty(t, b)
		w.build()
		w.makesObject()
		w.makesList(list(yes, no))
	}
}

// TestObjectsAreNew: what is done with one changes no other.
func TestObjectsAreNew(t *testing.T) {
	w := built(t)
	one := w.makesObject()
	w.done(w.Do(api.MDefine, one, api.Ask{Key: name("a"), Desc: field("a", yes, "wec").Desc}))
	w.done(w.Do(api.MPrevent, one, api.Ask{}))
	two := w.makesObject()
	if w.get(obj(two), "a") != undefined || w.get(obj(one), "a") != yes {
		t.Errorf("P1902: the objects are %+v and %+v", w.thing(obj(one)), w.thing(obj(two)))
	}
}

// TestObjectsInherit what object 0 has, also later.
func TestObjectsInherit(t *testing.T) {
	w := built(t)
	o, l := obj(w.makesObject()), w.makesList(list(yes))
	w.Heap.Put(0, name("a"), field("a", number(1), "wec").Desc)
	w.Heap.Put(2, name("b"), field("b", number(2), "wec").Desc)
	w.Heap.Put(1, name("c"), field("c", number(3), "wec").Desc)
	w.Heap.Put(2, name("0"), field("0", number(4), "wec").Desc)
	w.Heap.Put(2, name("1"), field("1", number(5), "wec").Desc)
	for _, x := range []struct {
		v    api.Value
		k    string
		want api.Value
	}{
		{o, "a", number(1)}, {o, "b", undefined}, {o, "c", undefined}, {o, "call", undefined}, {o, "0", undefined}, {o, "length", undefined},
		{l, "a", number(1)}, {l, "b", number(2)}, {l, "c", undefined}, {l, "call", undefined}, {l, "0", yes}, {l, "1", number(5)}, {l, "length", number(1)},
	} {
		if got := w.get(x.v, x.k); got != x.want {
			t.Errorf("P1902: %q of the object %d is %+v, want %+v", x.k, x.v.Num, got, x.want)
		}
	}
}

// TestWhatIsCreatedIsThatWayAlways: neither what became of the prototypes nor
// what there is beside them matters.
func TestWhatIsCreatedIsThatWayAlways(t *testing.T) {
	w := built(t)
	for o := range w.Heap.Len() {
		w.Heap.Set(o, api.Thing{Kind: api.Proxy, Proto: null, Target: obj(4), Handler: null, Props: []api.Entry{field("length", yes, "")}})
	}
	w.Use(nil)
	w.makesObject()
	w.makesList(list(yes, obj(3)))
}

// TestBeforeBuild: the prototypes have fixed numbers, whatever stands there. An
// object that is its own prototype does no harm.
func TestBeforeBuild(t *testing.T) {
	for o := range 3 {
		w := empty(t, api.Bounds{Fuel: 100, Room: 9, Deep: 1000})
		w.makesObject()
		w.makesList(list(yes))
		w.makesList(nil)
		want := api.Reply{Flow: api.NoFuel}
		if o == 1 {
			want = api.Reply{OK: true}
		}
		w.replies("P1902: MHas", w.Do(api.MHas, o, api.Ask{Key: name("0")}), want)
	}
}

// TestNoWorld: it is like one without room.
func TestNoWorld(t *testing.T) {
	for _, w := range []*mop.World{nil, {}, mop.New(api.Bounds{}), mop.New(api.Bounds{Fuel: 9, Room: -9, Deep: 9})} {
		if o, ok := Object(w); o != 0 || ok {
			t.Errorf("P1902: Object without room = %d, %v", o, ok)
		}
		for _, l := range [][]api.Value{nil, {}, someValues()} {
			if v, r := List(w, l); v != undefined || show(r) != show(api.Reply{Flow: api.NoRoom}) {
				t.Errorf("P1902: List without room = %+v, %+v", v, r)
			}
		}
	}
}
