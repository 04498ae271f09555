package run

import (
	"testing"

	"understudy/api"
)

// TestSeen: P2101, the log has the methods that the program performed, in the
// order in which they ended.
func TestSeen(t *testing.T) {
	a := name("a")
	own := api.Reply{Has: true, Desc: dataDesc(five, "wec")}
	for _, x := range []struct {
		source string
		want   []api.Seen
	}{
		{"", nil},
		{"1; let a = []; let b = [a, {}]; function f() { a.b; } typeof f;", nil},
		{"({a: 5});", []api.Seen{
			{Method: api.MDefine, Thing: built, Ask: api.Ask{Key: a, Desc: dataDesc(five, "wec")}, Reply: api.Reply{OK: true}},
		}},
		{"({a: 5}).a;", []api.Seen{
			{Method: api.MDefine, Thing: built, Ask: api.Ask{Key: a, Desc: dataDesc(five, "wec")}, Reply: api.Reply{OK: true}},
			{Method: api.MGetOwn, Thing: built, From: 1, Ask: api.Ask{Key: a}, Reply: own},
			{Method: api.MGet, Thing: built, From: 1, Ask: api.Ask{Key: a, Receiver: obj(built)}, Reply: api.Reply{Value: five}},
		}},
		{"print(5); throw 1;", []api.Seen{
			{Method: api.MCall, Thing: 31, Ask: api.Ask{Receiver: undefined, List: []api.Value{five}}},
		}},
		{"print(5); while (true) ;", []api.Seen{
			{Method: api.MCall, Thing: 31, Ask: api.Ask{List: []api.Value{five}}},
		}},
		{"Object.create(null);", []api.Seen{
			{Method: api.MGetOwn, Thing: 21, Ask: api.Ask{Key: name("create")}, Reply: api.Reply{Has: true, Desc: dataDesc(obj(22), "wc")}},
			{Method: api.MGet, Thing: 21, Ask: api.Ask{Key: name("create"), Receiver: obj(21)}, Reply: api.Reply{Value: obj(22)}},
			{Method: api.MCall, Thing: 22, From: 2, Ask: api.Ask{Receiver: obj(21), List: []api.Value{null}}, Reply: api.Reply{Value: obj(built)}},
		}},
		{"(function () { null.a; })();", nil},
		{"try { null.a; } catch (e) { throw e; }", nil},
	} {
		if got := Seen([]byte(x.source), plenty()); show(got) != show(x.want) {
			t.Errorf("P2101: Seen of %s is\n%+v, want\n%+v", x.source, got, x.want)
		}
	}
}

// TestSeenUpToABound: where a bound ends the program, the log has what ended
// before.
func TestSeenUpToABound(t *testing.T) {
	const source = "let o = {a: 5}; o.a; o.a; print(o.a); throw o;"
	whole := Seen([]byte(source), plenty())
	need := needs(t, source)
	for fuel := range need.Fuel + 1 {
		m, _ := executed(t, source, api.Bounds{Fuel: fuel, Room: need.Room, Deep: need.Deep})
		got := Seen([]byte(source), api.Bounds{Fuel: fuel, Room: need.Room, Deep: need.Deep})
		if show(got) != show(m.World().Log()) || show(got) != show(whole[:len(got)]) {
			t.Errorf("P2101: Seen with fuel %d is %+v", fuel, got)
		}
	}
	for room := range built + 1 {
		if l := Seen([]byte(source), api.Bounds{Fuel: 1000, Room: room, Deep: 10}); len(l) != 0 {
			t.Errorf("P2101: Seen with room %d has %d elements", room, len(l))
		}
	}
	if l := Seen([]byte(source), api.Bounds{Fuel: 1000, Room: 100}); len(l) != 0 {
		t.Errorf("P2101: Seen without depth has %d elements", len(l))
	}
}
