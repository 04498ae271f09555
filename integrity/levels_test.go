package integrity

import (
	"testing"

	"understudy/api"
)

// objects returns all objects as they are now.
func (w world) objects() []api.Thing {
	var l []api.Thing
	for o := range w.Heap.Len() {
		l = append(l, w.thing(obj(o)))
	}
	return l
}

// TestExtensible: what is extensible is neither sealed nor frozen, whatever its
// properties are, and they are not looked at.
func TestExtensible(t *testing.T) {
	w := newWorld(t)
	for _, l := range [][]api.Value{w.kinds(), w.kinds(field("a", yes, "")), w.kinds(field("a", yes, "wec"))} {
		for _, v := range l {
			w.only("sealed", v, not, isExt(v))
			w.only("frozen", v, not, isExt(v))
		}
	}
}

// TestEveryDesc: the level of an object with a single property.
func TestEveryDesc(t *testing.T) {
	w := newWorld(t)
	for _, e := range w.everyDesc() {
		v := w.add(api.Thing{Proto: null, Props: []api.Entry{e}})
		p := w.proxy(v, w.plain(null))
		before := show(w.objects())
		sealed := api.Reply{OK: !e.Desc.Configurable}
		frozen := api.Reply{OK: !e.Desc.Configurable && !e.Desc.Writable}
		for _, x := range []api.Value{v, p} {
			w.only("sealed", x, sealed, isExt(x), keysOf(x), own(x, name("a")))
			w.only("frozen", x, frozen, isExt(x), keysOf(x), own(x, name("a")))
		}
		if got := show(w.objects()); got != before {
			t.Errorf("P1102: Test changes\n%s to\n%s", before, got)
		}
	}
}

// TestNoProperties: an object without properties is frozen as soon as it is not
// extensible.
func TestNoProperties(t *testing.T) {
	w := newWorld(t)
	v := w.add(api.Thing{Proto: w.plain(null, field("a", yes, "wec"))})
	for _, x := range []api.Value{v, w.proxy(v, w.plain(null))} {
		w.only("sealed", x, ok, isExt(x), keysOf(x))
		w.only("frozen", x, ok, isExt(x), keysOf(x))
	}
}

// TestFirst: nothing behind the first property that is not as it must be is
// looked at.
func TestFirst(t *testing.T) {
	w := newWorld(t)
	f := w.function(api.CThis, 0, undefined)
	tight := []api.Entry{field("1", yes, "e"), field("b", yes, ""), sides("c", f, f, "e"), sides("a", undefined, f, ""), mark(yes, "")}
	order := []api.Key{name("1"), name("b"), name("c"), name("a"), {Sym: 2}}
	for i := range tight {
		for j := i; j < len(tight); j++ {
			for what, loose := range map[string][2]string{"sealed": {"c", "wc"}, "frozen": {"c", "w"}} {
				props := append([]api.Entry{}, tight...)
				for n, k := range []int{i, j} {
					key := props[k].Key
					if props[k] = field("", yes, loose[n]); k == 2 || k == 3 {
						props[k] = sides("", f, f, "c")
					}
					props[k].Key = key
				}
				v := w.add(api.Thing{Proto: null, Props: props})
				steps := []step{isExt(v), keysOf(v)}
				for _, k := range order[:i+1] {
					steps = append(steps, own(v, k))
				}
				w.only(what, v, not, steps...)
			}
		}
	}
	v := w.add(api.Thing{Proto: null, Props: tight})
	w.only("frozen", v, ok, isExt(v), keysOf(v), own(v, order[0]), own(v, order[1]), own(v, order[2]), own(v, order[3]), own(v, order[4]))
}

// TestWritable: what is writable but not configurable is sealed, not frozen.
func TestWritable(t *testing.T) {
	w := newWorld(t)
	v := w.add(api.Thing{Proto: null, Props: []api.Entry{field("a", yes, "w"), field("b", yes, "")}})
	w.only("sealed", v, ok, isExt(v), keysOf(v), own(v, name("a")), own(v, name("b")))
	w.only("frozen", v, not, isExt(v), keysOf(v), own(v, name("a")))
	array := w.array()
	w.Do(api.MPrevent, array.Num, api.Ask{})
	w.only("sealed", array, ok, isExt(array), keysOf(array), own(array, name("length")))
	w.only("frozen", array, not, isExt(array), keysOf(array), own(array, name("length")))
}

// TestLevels: sealing does not freeze, and freezing does both.
func TestLevels(t *testing.T) {
	w := newWorld(t)
	props := []api.Entry{field("a", yes, "wec"), sides("b", undefined, undefined, "ec"), mark(no, "wc")}
	level := func(v api.Value) (is [2]bool) {
		return [2]bool{w.call("sealed", v).OK, w.call("frozen", v).OK}
	}
	for _, v := range w.kinds(props...) {
		if got := level(v); got != [2]bool{} {
			t.Errorf("P1102: %+v is sealed, frozen: %v", w.thing(v), got)
		}
		Set(w.World, v.Num, false)
		if got := level(v); got != [2]bool{true, false} {
			t.Errorf("P1101: %+v is sealed, frozen: %v", w.thing(v), got)
		}
		Set(w.World, v.Num, true)
		if got := level(v); got != [2]bool{true, true} {
			t.Errorf("P1101: %+v is sealed, frozen: %v", w.thing(v), got)
		}
	}
}

// TestKeepsArrays: a frozen array does not grow.
func TestKeepsArrays(t *testing.T) {
	w := newWorld(t)
	v := w.array(yes, no)
	w.replies("P1101", Set(w.World, v.Num, true), ok)
	for _, k := range []string{"0", "1", "2", "length", "a"} {
		w.replies(k, w.Do(api.MSet, v.Num, api.Ask{Key: name(k), Value: number(7), Receiver: v}), not)
		w.replies(k, w.Do(api.MDelete, v.Num, api.Ask{Key: name(k)}), api.Reply{OK: k == "2" || k == "a"})
	}
	w.replies("P1102", Test(w.World, v.Num, true), ok)
	if got := w.thing(v).Props; show(got) != show(strict(api.Thing{Props: elements(yes, no)}, true).Props) {
		t.Errorf("P1101: frozen and written to, it is %+v", got)
	}
}
