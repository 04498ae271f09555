package realm

import (
	"math/rand"
	"testing"

	"understudy/api"
)

// TestRowsOfCalls compares rows of calls made by chance with lists of what they
// should create, in worlds with room for some of it.
func TestRowsOfCalls(t *testing.T) {
	cut, whole := 0, 0
	for seed := range 2000 {
		dice := rand.New(rand.NewSource(int64(seed)))
		room := dice.Intn(80)
		w := empty(t, api.Bounds{Fuel: dice.Intn(3), Room: room, Deep: dice.Intn(3)})
		w.quiet("P1901", func() {
			w.build()
			things, constants := first(min(room, len(beginning())))
			for range dice.Intn(60) {
				x := w.create(dice)
				if len(things) < room {
					things = append(things, x)
				} else {
					cut++
				}
			}
			w.has("P1902", things)
			w.hasNames("P1902", constants)
			if len(things) < room {
				whole++
			}
		})
	}
	if cut < 1000 || whole < 100 {
		t.Errorf("%d calls have no room, and %d worlds are not full", cut, whole)
	}
}

// create calls Object or List, and returns what is created where there is room.
func (w world) create(dice *rand.Rand) api.Thing {
	w.t.Helper()
	before := w.Heap.Len()
	if dice.Intn(2) == 0 {
		o, ok := Object(w.World)
		if ok != (w.Heap.Len() > before) || ok && o != before || !ok && o != 0 {
			w.t.Fatalf("P1902: Object = %d, %v", o, ok)
		}
		return api.Thing{Proto: obj(0), Extensible: true}
	}
	var l []api.Value
	for range dice.Intn(6) {
		l = append(l, someValues()[dice.Intn(len(someValues()))])
	}
	v, r := List(w.World, l)
	switch {
	case w.Heap.Len() > before:
		w.replies("P1902: List", r, api.Reply{})
		if v != obj(before) {
			w.t.Fatalf("P1902: List = %+v", v)
		}
	case r.Flow != api.NoRoom || v != undefined:
		w.t.Fatalf("P1902: List without room = %+v, %+v", v, r)
	}
	return array(l)
}
