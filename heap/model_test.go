package heap

import (
	"slices"
	"testing"

	"understudy/api"
	"understudy/keys"
)

// model is a heap as the chapter puts it: objects in a list, each with a list
// of properties that is searched from the beginning.
type model struct {
	room, symbols int
	things        []api.Thing
}

func (m *model) make(t api.Thing) (int, bool) {
	if len(m.things) >= m.room {
		return 0, false
	}
	m.things = append(m.things, t)
	return len(m.things) - 1, true
}

func (m *model) set(o int, t api.Thing) bool {
	if o < 0 || o >= len(m.things) {
		return false
	}
	m.things[o] = t
	return true
}

// place returns where the first property with the key k stands, or -1.
func (m *model) place(o int, k api.Key) int {
	if o < 0 || o >= len(m.things) {
		return -1
	}
	return slices.IndexFunc(m.things[o].Props, func(e api.Entry) bool { return e.Key == k })
}

func (m *model) own(o int, k api.Key) (api.Desc, bool) {
	i := m.place(o, k)
	if i < 0 {
		return api.Desc{}, false
	}
	return m.things[o].Props[i].Desc, true
}

func (m *model) put(o int, k api.Key, d api.Desc) bool {
	if o < 0 || o >= len(m.things) {
		return false
	}
	l := slices.Clone(m.things[o].Props)
	if i := m.place(o, k); i >= 0 {
		l[i].Desc = d
	} else {
		l = append(l, api.Entry{Key: k, Desc: d})
	}
	m.things[o].Props = l
	return true
}

func (m *model) drop(o int, k api.Key) bool {
	i := m.place(o, k)
	if i < 0 {
		return false
	}
	m.things[o].Props = slices.Delete(slices.Clone(m.things[o].Props), i, i+1)
	return true
}

func (m *model) keys(o int) []api.Key {
	if o < 0 || o >= len(m.things) {
		return nil
	}
	var l []api.Key
	for _, e := range m.things[o].Props {
		l = append(l, e.Key)
	}
	return keys.Order(l)
}

// dice is a row of numbers that looks like chance, and is always the same.
type dice uint64

func (d *dice) next(n int) int {
	*d = *d*6364136223846793005 + 1442695040888963407
	return int(uint64(*d)>>33) % n
}

func (d *dice) key() api.Key {
	all := []api.Key{name("a"), name("b"), name("3"), name("20"), name("03"), sym(1), sym(2), {Str: "a", Sym: 1}}
	return all[d.next(len(all))]
}

func (d *dice) thing() api.Thing {
	var l []api.Entry
	for range d.next(6) {
		l = append(l, entry(d.key(), d.next(30)))
	}
	return full(d.next(20), l...)
}

// together does one thing to both, and compares what they answer.
func together(t *testing.T, d *dice, h *Heap, m *model) {
	t.Helper()
	o, k := d.next(m.room+3)-1, d.key()
	switch d.next(10) {
	case 0:
		x := d.thing()
		got, ok := h.Make(x)
		if want, wanted := m.make(x); got != want || ok != wanted {
			t.Fatalf("P801: Make = %d, %v, want %d, %v", got, ok, want, wanted)
		}
	case 1:
		x := d.thing()
		if got, want := h.Set(o, x), m.set(o, x); got != want {
			t.Fatalf("P801: Set(%d) = %v, want %v", o, got, want)
		}
	case 2:
		m.symbols++
		if got := h.Symbol(); got != m.symbols {
			t.Fatalf("P801: Symbol = %d, want %d", got, m.symbols)
		}
	case 3, 4, 5:
		x := data(d.next(30))
		if got, want := h.Put(o, k, x), m.put(o, k, x); got != want {
			t.Fatalf("P801: Put(%d, %+v) = %v, want %v", o, k, got, want)
		}
	case 6, 7, 8:
		if got, want := h.Drop(o, k), m.drop(o, k); got != want {
			t.Fatalf("P801: Drop(%d, %+v) = %v, want %v", o, k, got, want)
		}
	default:
		want, exists := m.own(o, k)
		checkOwn(t, h, o, k, want, exists)
	}
}

func compare(t *testing.T, h *Heap, m *model) {
	t.Helper()
	if h.Len() != len(m.things) {
		t.Fatalf("P801: Len = %d, want %d", h.Len(), len(m.things))
	}
	for o, want := range m.things {
		checkThing(t, h, o, want)
		if got, want := h.Keys(o), m.keys(o); !slices.Equal(got, want) {
			t.Fatalf("P801: Keys(%d) = %v, want %v", o, got, want)
		}
	}
}

func TestAgainstTheModel(t *testing.T) {
	for seed := range 150 {
		d := dice(seed)
		room := d.next(5)
		h, m := New(room), &model{room: room}
		for range 120 {
			together(t, &d, h, m)
			compare(t, h, m)
		}
	}
}

// TestManyProperties: with steps that grow with the number of properties, this
// would not end in time.
func TestManyProperties(t *testing.T) {
	const many = 100000
	h := New(2)
	var l []api.Entry
	for n := range many {
		l = append(l, entry(name("same"), n))
	}
	o, other := mustMake(t, h, full(1)), mustMake(t, h, full(2, l...))
	for n := range many {
		if !h.Put(o, sym(n+1), data(n)) {
			t.Fatalf("P801: Put of the symbol %d = false", n+1)
		}
	}
	for n := range many {
		checkOwn(t, h, o, sym(n+1), data(n), true)
		checkOwn(t, h, other, name("same"), data(n), true)
		if !h.Drop(o, sym(n+1)) || !h.Drop(other, name("same")) {
			t.Fatalf("P801: Drop of the property %d = false", n)
		}
	}
	checkThing(t, h, o, full(1))
	checkThing(t, h, other, full(2))
}
