package eval

import (
	"math"
	"strings"
	"testing"

	"understudy/api"
	"understudy/mop"
)

// TestMachinesThatNewHasNotMade are like those without room.
func TestMachinesThatNewHasNotMade(t *testing.T) {
	m := &Machine{}
	for _, n := range []api.Node{{}, program(), single(digit(1)), program(of(api.SReturn))} {
		if r := m.Run(n); show(r) != show(api.Reply{Flow: api.NoRoom}) {
			t.Errorf("Run of %+v gives %+v", n, r)
		}
	}
	if len(m.Out()) != 0 || m.World() != nil {
		t.Errorf("Out is %q, the world %+v", m.Out(), m.World())
	}
	for code := -1; code < 50; code++ {
		m.Call(nil, api.Thing{Code: code}, undefined, nil)
		m.Call(mop.New(plenty()), api.Thing{Code: code}, undefined, nil)
	}
}

// TestFunctionsThatAreNotThere throw, as functions with an unknown Code do.
func TestFunctionsThatAreNotThere(t *testing.T) {
	m := fresh(t)
	m.done("function f() { return a; } function g() { return f; }")
	for _, n := range []int{math.MinInt, -1, 2, 3, math.MaxInt} {
		if got := m.tell(m.Call(m.World(), api.Thing{Kind: api.Function, Code: api.CWritten, N: n}, undefined, nil)); got != "threw TypeError" {
			t.Errorf("the function %d: %s", n, got)
		}
	}
	for _, env := range []int{math.MinInt, -1, 10, math.MaxInt} {
		if got := m.tell(m.Call(m.World(), api.Thing{Kind: api.Function, Code: api.CWritten, Env: env}, undefined, nil)); got != "threw ReferenceError" {
			t.Errorf("the scope %d: %s", env, got)
		}
	}
}

// TestOtherWorlds: a function is performed in the world that is given.
func TestOtherWorlds(t *testing.T) {
	m := fresh(t)
	f := m.thing(m.done("(function (a) { let l = [a, {}]; function g() { } return null.a; });"))
	steps := m.spent()
	w := mop.New(api.Bounds{Fuel: 100, Room: 9, Deep: 9})
	r := m.Call(w, f, undefined, nil)
	if fuel, _ := w.Left(); r.Flow != api.Threw || fuel == 100 || w.Heap.Len() != 5 || m.spent() != steps {
		t.Errorf("in another world: %+v", r)
	}
	for _, w := range []*mop.World{nil, {}} {
		if r := m.Call(w, f, undefined, nil); r.Flow != api.NoFuel && r.Flow != api.NoRoom {
			t.Errorf("without a world: %+v", r)
		}
	}
}

// TestWithoutAHeap: that is like one without room.
func TestWithoutAHeap(t *testing.T) {
	for _, s := range examples() {
		m := fresh(t)
		m.World().Heap = nil
		if r := m.run(s); r.Flow != api.NoRoom && strings.ContainsAny(s, "[(") && !strings.Contains(s, "while") {
			t.Errorf("%s gives %+v", s, r)
		}
	}
}

// TestStrangeFlows: what other Callers return ends the program.
func TestStrangeFlows(t *testing.T) {
	for flow := -1; flow < 10; flow++ {
		for _, s := range []string{"print();", "while (print()) break;", "try { print(); } catch (e) { } finally { }", "[1, print()];", "({a: print()});", "print[print()] = print();"} {
			m := fresh(t)
			m.World().Use(callerFunc(func(*mop.World, api.Thing, api.Value, []api.Value) api.Reply {
				return api.Reply{Flow: flow, Value: number(5)}
			}))
			m.run(s)
			m.World().Use(m.Machine)
			if got := m.done("1 + 2;"); got != number(3) {
				t.Errorf("after the flow %d: %+v", flow, got)
			}
		}
	}
}

// TestPanicsOfOthers are passed on, and the machine can be used afterwards.
func TestPanicsOfOthers(t *testing.T) {
	m := fresh(t)
	m.World().Use(callerFunc(func(*mop.World, api.Thing, api.Value, []api.Value) api.Reply { panic("other") }))
	func() {
		defer func() {
			if e := recover(); e != "other" {
				t.Errorf("the panic is %v", e)
			}
		}()
		m.run("try { print(); } catch (e) { } finally { }")
		t.Error("the panic was not passed on")
	}()
	m.World().Use(m.Machine)
	if got := m.done("function f() { return 4; } f();"); got != number(4) {
		t.Errorf("after the panic: %+v", got)
	}
}

// TestObjectsThatOthersChange while a program creates them: a property that
// can't be defined is a TypeError.
func TestObjectsThatOthersChange(t *testing.T) {
	for _, s := range []string{"({a: 1, b: print()});", "({a: 1, [print()]: 2});", "({a: print(), get b() { }});", "({[print()]: 1, set b(v) { }});"} {
		m := fresh(t)
		m.World().Use(callerFunc(func(w *mop.World, _ api.Thing, _ api.Value, _ []api.Value) api.Reply {
			return w.Do(api.MPrevent, built, api.Ask{})
		}))
		if got := m.tell(m.run(s)); got != "threw TypeError" {
			t.Errorf("P2003: %s gives %s", s, got)
		}
	}
}

// TestNativesAndProgramsCallEachOther: traps are functions of programs.
func TestNativesAndProgramsCallEachOther(t *testing.T) {
	prints(t, "P2001", `
		let h = {get: function (t, k, r) { print(k); return Reflect.get(t, k, r); }}; let p = new Proxy({a: 1, get b() { return this.a; }}, h); p.b; => "b" | "a" | 1
		let p = new Proxy(function (a) { return a; }, {apply: function (f, t, l) { print(l.length); return Reflect.apply(f, t, l); }}); p(3); p.call(0, 4); p.bind(0, 5)(); => 1 | 1 | 1 | 5
		let o = Object.freeze(new Proxy({a: 1}, {defineProperty: function (t, k, d) { print(k, d.writable, "value" in d); return Reflect.defineProperty(t, k, d); }})); Object.isFrozen(o); => "a" false false | true
		let r = Proxy.revocable({}, {get: function (t, k) { r.revoke(); return k; }}); print(r.proxy.a); r.proxy.a; => "a" | threw TypeError
		print(Object.keys({b: 1, a: 2}).length, Array.isArray([]), print); => 2 true function | undefined`)
}
