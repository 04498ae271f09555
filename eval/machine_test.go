package eval

import (
	"math"
	"testing"

	"understudy/api"
	"understudy/mop"
	"understudy/natives"
	"understudy/realm"
	"understudy/scope"
)

// TestNew: the world is one that Build has filled, and nothing else.
func TestNew(t *testing.T) {
	for _, b := range []api.Bounds{plenty(), {}, {Fuel: 5, Room: 32, Deep: 2}, {Fuel: -1, Room: -1, Deep: -1}, {Room: 31}, {Room: 7, Deep: math.MaxInt}, {Fuel: math.MaxInt, Room: 33, Deep: math.MinInt}} {
		m, w, s := New(b), mop.New(b), scope.New()
		r := realm.Build(w, s)
		if show(m.built) != show(r) {
			t.Errorf("P2001: with %+v Build has returned %+v, want %+v", b, m.built, r)
		}
		same(t, "P2001: the world of a new machine", m.World(), w)
		if len(m.Out()) != 0 || m.World() != m.World() {
			t.Errorf("P2001: a new machine has printed %q", m.Out())
		}
		for _, k := range []string{"Proxy", "Reflect", "Object", "Symbol", "Array", "print", "a"} {
			got, state := m.scopes.Get(0, k)
			want, other := s.Get(0, k)
			if got != want || state != other {
				t.Errorf("P2001: %s is %+v, %d", k, got, state)
			}
		}
	}
}

// TestWithoutRoomForTheBeginning: every call of Run returns what Build has
// returned, and does nothing.
func TestWithoutRoomForTheBeginning(t *testing.T) {
	for room := -2; room <= built; room++ {
		m := machine{New(api.Bounds{Fuel: 100, Room: room, Deep: 10}), t}
		for _, s := range []string{"1;", "", "return;", "print(1);", "1;"} {
			got := m.run(s)
			want := api.Reply{Flow: api.NoRoom}
			if room == built && s != "return;" {
				want.Flow = api.Done
				if s == "1;" {
					want.Value = number(1)
				}
			}
			if show(got) != show(want) {
				t.Errorf("P2001: with room %d %q gives %+v", room, s, got)
			}
		}
		if r := m.Run(api.Node{}); r.Flow != api.NoRoom {
			t.Errorf("P2001: with room %d a tree that is no program gives %+v", room, r)
		}
		if fuel, _ := m.World().Left(); room < built && (fuel != 100 || len(m.Out()) != 0 || m.World().Heap.Len() != max(room, 0)) {
			t.Errorf("P2001: with room %d something was done", room)
		}
	}
}

// TestEarlyErrors are thrown, and nothing is executed.
func TestEarlyErrors(t *testing.T) {
	of := func(kind int, kids ...api.Node) api.Node { return api.Node{Kind: kind, Kids: kids} }
	trees := []api.Node{{}, of(api.SReturn), of(api.NNumber), of(api.SBlock), of(77), of(api.SProgram, of(api.NNumber)), of(api.SProgram, of(api.SExpr)), {Kind: api.SProgram, Text: "a"}, of(api.SProgram, of(api.SIf, of(api.NTrue)))}
	for _, s := range []string{"return;", "print(1); return;", "break;", "let a; let a;", "print(1); { continue; }", "if (1) let a;", "function f(a) { let a; }", "function f() { } (function () { break; });"} {
		trees = append(trees, tree(t, s))
	}
	for _, n := range trees {
		m := fresh(t)
		r := m.Run(n)
		want := api.Thing{Kind: api.Error, Proto: null, Extensible: true, Props: []api.Entry{{Key: name("name"), Desc: data(str("SyntaxError"), true, false, true)}}}
		if show(r) != show(api.Reply{Flow: api.Threw, Value: obj(built)}) || !equal(m.thing(r.Value), want) {
			t.Errorf("P2001: %+v gives %+v", n, r)
		}
		if m.spent() != 0 || m.World().Heap.Len() != built+1 || len(m.Out()) != 0 {
			t.Errorf("P2001: %+v was executed", n)
		}
		if scopes := m.scopes.Make(0); scopes != 1 {
			t.Errorf("P2001: %+v has %d scopes", n, scopes-1)
		}
		if got := m.done("1 + 2;"); got != number(3) {
			t.Errorf("P2001: after %+v 1 + 2 gives %+v", n, got)
		}
	}
}

// TestRuns have scopes of their own, in one world.
func TestRuns(t *testing.T) {
	m := fresh(t)
	for _, row := range rows(`
		let a = 1; Object.b = 2; print(1); => undefined
		a; => threw ReferenceError
		let a = Object.b; a; => 2
		Object.b = 3; throw 4; => threw 4
		Object.b; => 3
		print("x"); => undefined
		return; => threw SyntaxError
		let print = 5; print; => 5
		print(this); => undefined
		Symbol() === Symbol(); => false`, "=>") {
		if got := m.tell(m.run(row[0])); got != row[1] {
			t.Errorf("P2001: %s gives %s, want %s", row[0], got, row[1])
		}
	}
	if got := show(m.Out()); got != `[1 "x" undefined]` {
		t.Errorf("P2001: Out is %s", got)
	}
	if symbol := m.World().Heap.Symbol(); symbol != 3 {
		t.Errorf("P2001: the next symbol is %d", symbol)
	}
}

// TestScopesOfARun: it has one within scope 0, whatever happened before.
func TestScopesOfARun(t *testing.T) {
	m := fresh(t)
	m.done("let a = 1;")
	m.run("let a = 2; let Object = 3; throw a;")
	m.done("{ let a = 4; } let b = 5;")
	for env, want := range []api.Value{undefined, number(1), number(2), undefined, number(4)} {
		if got, _ := m.scopes.Get(env, "a"); got != want {
			t.Errorf("P2001: a in the scope %d is %+v, want %+v", env, got, want)
		}
	}
	if got, _ := m.scopes.Get(2, "Object"); got != number(3) {
		t.Errorf("P2001: Object in the scope 2 is %+v", got)
	}
	if got, _ := m.scopes.Get(3, "Object"); got != obj(21) {
		t.Errorf("P2001: Object in the scope 3 is %+v", got)
	}
}

// TestAfterABound: a machine goes on with what is left.
func TestAfterABound(t *testing.T) {
	m := machine{New(api.Bounds{Fuel: 60, Room: built + 4, Deep: 2}), t}
	for _, row := range rows(`
		function f() { f(); } f(); => TooDeep
		2; => 2
		function g() { } => NoRoom
		3; => 3
		null.a; => NoRoom
		return; => NoRoom
		while (true) ; => NoFuel
		4; => NoFuel
		=> undefined`, "=>") {
		if got := m.tell(m.run(row[0])); got != row[1] {
			t.Errorf("P2001: %s gives %s, want %s", row[0], got, row[1])
		}
		if row[1] == "TooDeep" {
			m.done("({});")
			m.done("[];")
		}
	}
}

// TestMachinesAreIndependent: what one does changes nothing for another.
func TestMachinesAreIndependent(t *testing.T) {
	one, two := fresh(t), fresh(t)
	v := one.done("Object.a = 1; print(1); let b = 2; (function () { return b; });")
	if got := two.tell(two.run("Object.a;")); got != "undefined" {
		t.Errorf("P2005: another machine has Object.a %s", got)
	}
	two.done("print(2); let b = 3; (function () { return b + 1; });")
	if got := one.World().Do(api.MCall, v.Num, api.Ask{}); got.Value != number(2) {
		t.Errorf("P2005: the function returns %+v", got)
	}
	if show(one.Out()) != "[1]" || show(two.Out()) != "[2]" {
		t.Errorf("P2005: Out is %q and %q", one.Out(), two.Out())
	}
	third := fresh(t)
	third.done("print(2); let b = 3; (function () { return b + 1; });")
	other := fresh(t)
	other.run("Object.a;")
	other.done("print(2); let b = 3; (function () { return b + 1; });")
	same(t, "P2005: the same programs", two.World(), other.World())
}

// TestTheMachineIsTheCaller of its world.
func TestTheMachineIsTheCaller(t *testing.T) {
	var c mop.Caller = New(plenty())
	m := machine{c.(*Machine), t}
	m.World().Do(api.MCall, 31, api.Ask{List: []api.Value{str("a"), obj(0), obj(3)}})
	if got := show(m.Out()); got != `["a" object function]` {
		t.Errorf("P2001: Out is %s", got)
	}
	f := m.done("(function (a) { print(a); return this; });")
	m.World().Use(&natives.Natives{})
	if got := m.tell(m.World().Do(api.MCall, f.Num, api.Ask{})); got != "threw TypeError" {
		t.Errorf("P2001: with another Caller the call gives %s", got)
	}
	m.World().Use(m.Machine)
	if got := m.tell(m.World().Do(api.MCall, f.Num, api.Ask{Receiver: number(4), List: []api.Value{yes}})); got != "4" || len(m.Out()) != 2 {
		t.Errorf("P2001: the call gives %s, Out is %q", got, m.Out())
	}
}
