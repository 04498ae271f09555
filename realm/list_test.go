package realm

import (
	"fmt"
	"math"
	"slices"
	"testing"

	"understudy/api"
)

// makesList checks that List creates an array of l and does nothing else.
func (w world) makesList(l []api.Value) api.Value {
	w.t.Helper()
	before := w.objects()
	var v api.Value
	w.quiet("P1902: List", func() {
		var r api.Reply
		v, r = List(w.World, l)
		w.replies("P1902: List", r, api.Reply{})
	})
	if v != obj(len(before)) {
		w.t.Fatalf("P1902: List = %+v, want the object %d", v, len(before))
	}
	w.has("P1902: List", append(before, array(l)))
	return v
}

func TestList(t *testing.T) {
	w := built(t)
	w.makesList(nil)
	w.makesList([]api.Value{})
	all := someValues()
	for _, a := range all {
		w.makesList(list(a))
		for _, b := range all {
			w.makesList(list(a, b))
		}
	}
	for n := range all {
		w.makesList(all[:n])
		w.makesList(all[n:])
	}
}

// TestListIsLikeAnArray of the same elements in chapter 9, but for the
// prototype.
func TestListIsLikeAnArray(t *testing.T) {
	for n := range 40 {
		w, twin := built(t), built(t)
		var l []api.Value
		for i := range n {
			l = append(l, someValues()[i*n%len(someValues())])
		}
		v, r := List(w.World, l)
		other, _ := twin.Array(l)
		x := twin.thing(other)
		if x.Proto != null {
			t.Fatalf("the array is %+v", x)
		}
		x.Proto = obj(2)
		twin.Heap.Set(other.Num, x)
		w.replies("P1902: List", r, api.Reply{})
		w.has("P1902: List", twin.objects())
		if v != other {
			t.Errorf("P1902: List = %+v, want %+v", v, other)
		}
	}
}

func TestListWithoutRoom(t *testing.T) {
	for _, room := range []int{math.MinInt, -1, 0, 1, 2, 5, 31, 32, 33, 40} {
		w := empty(t, api.Bounds{Fuel: 100, Room: room, Deep: 10})
		w.build()
		for w.Heap.Len() < room {
			w.makesList(list(no))
		}
		before := w.objects()
		for n := range someValues() {
			w.quiet("P1902: List", func() {
				v, r := List(w.World, someValues()[:n])
				w.replies("P1902: List without room", r, api.Reply{Flow: api.NoRoom})
				if v != undefined {
					t.Fatalf("P1902: beside NoRoom there is %+v", v)
				}
			})
		}
		w.has("P1902: List without room", before)
	}
}

// TestLongLists: more elements than can be taken out of an array again.
func TestLongLists(t *testing.T) {
	for _, n := range []int{99, 100, api.MaxList, api.MaxList + 1, 3 * api.MaxList} {
		w := built(t)
		l := make([]api.Value, n)
		for i := range l {
			l[i] = number(i * i)
		}
		v := w.makesList(l)
		if w.get(v, "length") != number(n) || w.get(v, fmt.Sprint(n-1)) != l[n-1] || w.get(v, fmt.Sprint(n)) != undefined {
			t.Errorf("P1902: an array of %d elements is wrong at the end", n)
		}
		got, r := w.World.List(v)
		if n > api.MaxList {
			continue
		}
		if w.done(r); !slices.Equal(got, l) {
			t.Errorf("P1902: the array of %d elements has others", n)
		}
	}
}

// TestListsGrowAndShrink as arrays do.
func TestListsGrowAndShrink(t *testing.T) {
	w := built(t)
	v := w.makesList(list(yes, no, yes))
	set := func(k string, x api.Value, ok bool) {
		t.Helper()
		r := w.done(w.Do(api.MSet, v.Num, api.Ask{Key: name(k), Value: x, Receiver: v}))
		if r.OK != ok {
			t.Fatalf("P1902: Set of %q: %v", k, r.OK)
		}
	}
	set("5", str("five"), true)
	if w.get(v, "length") != number(6) {
		t.Errorf("P1902: the length is %+v", w.get(v, "length"))
	}
	set("length", number(1), true)
	if show(w.thing(v)) != show(array(list(yes))) {
		t.Errorf("P1902: the array is %+v", w.thing(v))
	}
	if r := w.done(w.Do(api.MDelete, v.Num, api.Ask{Key: name("length")})); r.OK {
		t.Error("P1902: the length can be deleted")
	}
	if r := w.done(w.Do(api.MDelete, v.Num, api.Ask{Key: name("0")})); !r.OK {
		t.Error("P1902: an element can't be deleted")
	}
	if is := w.call(w.get(w.global("Array"), "isArray"), undefined, v); is != yes {
		t.Errorf("P1902: isArray = %+v", is)
	}
}

// TestArgumentsAreLeftAlone: neither the list nor what is behind it changes,
// nor does what becomes of it afterwards change the array.
func TestArgumentsAreLeftAlone(t *testing.T) {
	for n := range someValues() {
		w := built(t)
		l := roomy(someValues()[:n], str("behind"))
		before := slices.Clone(l[:cap(l)])
		v := w.makesList(l)
		if !slices.Equal(l[:cap(l)], before) {
			t.Errorf("P1903: List changes its argument to %+v", l[:cap(l)])
		}
		spoil(l, str("spoilt"))
		if show(w.thing(v)) != show(array(before[:n])) {
			t.Errorf("P1903: List keeps its argument: %+v", w.thing(v))
		}
	}
}

// TestListsOfTheSameElements share nothing.
func TestListsOfTheSameElements(t *testing.T) {
	w := built(t)
	l := list(yes, number(1), obj(0))
	one, two := w.makesList(l), w.makesList(l)
	w.done(w.Do(api.MDefine, one.Num, api.Ask{Key: name("0"), Desc: field("0", no, "").Desc}))
	w.done(w.Do(api.MSet, one.Num, api.Ask{Key: name("length"), Value: number(1), Receiver: one}))
	if show(w.thing(two)) != show(array(l)) {
		t.Errorf("P1903: the second array is %+v", w.thing(two))
	}
	x := w.thing(two)
	spoil(x.Props, field("spoilt", yes, ""))
	if show(w.thing(two)) != show(array(l)) {
		t.Errorf("P1903: the second array is %+v", w.thing(two))
	}
}

// TestStrangeElements: for these nothing is specified, but the call ends.
func TestStrangeElements(t *testing.T) {
	w := built(t)
	w.makesList(list(obj(-1), obj(math.MaxInt), api.Value{Kind: 77, Num: -5, Str: "\xff"}, symbol(0), number(math.MinInt), str("\xed\xa0")))
}
