package eval

import (
	"testing"

	"understudy/api"
)

func TestExample(t *testing.T) { gives(t, "P2001", "1 + 2; => 3") }

// TestValueOfAProgram is that of the last SExpr outside of functions.
func TestValueOfAProgram(t *testing.T) {
	gives(t, "P2001", `
		=> undefined
		; => undefined
		let a = 1; => undefined
		1; => 1
		1; 2; => 2
		1; let a = 2; => 1
		1; ; { } => 1
		1; function f() { 2; } f(); => undefined
		1; function f() { 2; return 3; } f(); => 3
		1; function f() { 2; } => 1
		1; let a = (function () { 2; })(); => 1
		1; let o = {get a() { 2; }}; let b = o.a; => 1
		{ 1; { 2; } let a = 3; } => 2
		if (true) 1; => 1
		1; if (false) 2; => 1
		1; if (false) 2; else 3; => 3
		1; if (2) { } => 1
		let i = 0; while (i < 3) { i = i + 1; } i = i * 2; => 6
		let i = 0; while (i < 3) { i = i + 1; } => 3
		1; while (true) { 2; break; 3; } => 2
		1; while (true) { break; 3; } => 1
		try { 1; } finally { } => 1
		try { 1; } finally { 2; } => 2
		try { 1; throw 2; 3; } catch (e) { } => 1
		try { 1; throw 2; } catch (e) { e; } => 2
		try { 1; throw 2; } catch (e) { 3; } finally { 4; } => 4
		try { 1; 2 + null.a; } catch (e) { } => 1
		1; throw 2; => threw 2
		1; null.a; => threw TypeError`)
}

// TestEachRunHasItsOwnValue: nothing is left of the value of the one before.
func TestEachRunHasItsOwnValue(t *testing.T) {
	m := fresh(t)
	for _, row := range rows("1; => 1\n=> undefined\n2; => 2\nlet a = 1; => undefined", "=>") {
		if got := m.tell(m.run(row[0])); got != row[1] {
			t.Errorf("P2001: %s gives %s, want %s", row[0], got, row[1])
		}
	}
}

func TestDeclarations(t *testing.T) {
	gives(t, "P2002", `
		let a = 1; a; => 1
		let a; a; => undefined
		const a = 1; a; => 1
		let a = 1; a = 2; a; => 2
		const a = 1; a = 2; => threw TypeError
		function f() { } f = 1; f; => 1
		a; let a = 1; => threw ReferenceError
		a = 2; let a = 1; => threw ReferenceError
		typeof a; let a = 1; => threw ReferenceError
		a; const a = 1; => threw ReferenceError
		a = 2; const a = 1; => threw ReferenceError
		a; => threw ReferenceError
		a = 1; => threw ReferenceError
		let a = a; => threw ReferenceError
		let a = 1; { a; let a = 2; } => threw ReferenceError
		let a = 1; { let a = a; } => threw ReferenceError
		let a = 1; { a = 2; } a; => 2
		let a = 1; { let a = 2; a; } => 2
		let a = 1; { let a = 2; } a; => 1
		{ let a = 1; } a; => threw ReferenceError
		{ const a = 1; { a = 2; } } => threw TypeError
		{ function f() { } } typeof f; => "undefined"
		f(); function f() { } => undefined
		let a = f(); function f() { return 1; } a; => 1
		{ f(); function f() { return 1; } } => 1
		function f() { return g(); } function g() { return 1; } f(); => 1
		let a = f(); let b = 1; function f() { return b; } => threw ReferenceError
		let a = 1; function f() { return a; } { let a = 2; f(); } => 1
		let a = (function () { return a; }); a === a(); => true
		let Object = 1; Object; => 1
		let print = 1; { print; } => 1
		Object = 1; => threw TypeError
		undefined; => undefined`)
	prints(t, "P2002", `
		print(f()); function f() { return 1; } print(g()); function g() { return 2; } => 1 | 2 | undefined
		let a = 1; { print(a = 2); } { let a = 3; print(a); { a = 4; } print(a); } print(a); => 2 | 3 | 4 | 2 | undefined`)
}

func TestConditions(t *testing.T) {
	gives(t, "P2002", `
		if (1) 2; else 3; => 2
		if (0) 2; else 3; => 3
		if (null) 2; else 3; => 3
		if (undefined) 2; else 3; => 3
		if ("") 2; else 3; => 3
		if ("0") 2; else 3; => 2
		if ({}) 2; else 3; => 2
		if (Symbol()) 2; else 3; => 2
		if (!1) 2; => undefined
		if (1) if (0) 2; else 3; => 3
		if (0) if (0) 2; else 3; => undefined
		if (null.a) 2; else 3; => threw TypeError
		if (1) throw 2; else throw 3; => threw 2
		let i = 0; while (i < 10) i = i + 3; i; => 12
		while (false) 1; => undefined
		while (0) throw 1; 2; => 2
		while (null.a) ; => threw TypeError
		while (true) throw 1; => threw 1
		let i = 3; let a = ""; while (i) { a = a + i; i = i - 1; } a; => "321"`)
}

func TestBreaksAndContinues(t *testing.T) {
	gives(t, "P2002", `
		while (true) break; 1; => 1
		while (true) { { { break; } } } 1; => 1
		while (true) { if (true) break; throw 1; } 2; => 2
		while (true) { while (true) break; break; } 1; => 1
		let i = 0; while (i < 5) { i = i + 1; while (true) { break; } } i; => 5
		let i = 0; let a = 0; while (i < 9) { i = i + 1; if (i % 2) continue; a = a + i; } a; => 20
		let i = 0; let a = 0; while (i < 9) { i = i + 1; { let b = i; if (b % 2) continue; } a = a + i; } a; => 20
		let i = 0; let a = 0; while (i < 3) { i = i + 1; let j = 0; while (j < 3) { j = j + 1; if (j === 2) continue; a = a + 1; } } a; => 6
		let i = 0; while (i < 5) { i = i + 1; continue; throw 1; } i; => 5
		let i = 0; while (i < 5) if ((i = i + 1)) continue; else throw 1; i; => 5
		let a = 1; while (true) { let a = 2; { let a = 3; break; } } a; => 1
		let a = 1; let i = 0; while (i < 2) { let a = 2; { let a = 3; i = i + 1; continue; } } a; => 1
		function f() { while (true) { return 1; } } f(); => 1
		function f() { while (true) { break; } return 2; } f(); => 2
		while (true) { (function () { while (true) break; })(); break; } 1; => 1`)
}

// TestScopesOfRounds: each round has a scope of its own.
func TestScopesOfRounds(t *testing.T) {
	gives(t, "P2002", `
		let l = []; let i = 0; while (i < 3) { let j = i; l[i] = function () { j = j + 1; return j; }; i = i + 1; } l[0](); l[0](); [l[0](), l[1](), l[2]()]; => [3 2 3]
		let f; while (!f) { const a = 5; f = function () { return a; }; } f(); => 5`)
}

func TestThrowing(t *testing.T) {
	gives(t, "P2002", `
		throw 1; => threw 1
		throw undefined; => threw undefined
		throw {}; => threw object
		throw [1, 2]; => threw [1 2]
		throw print; => threw function
		throw null.a; => threw TypeError
		throw a; => threw ReferenceError
		{ throw 1; } => threw 1
		function f() { throw 1; } f(); => threw 1
		function f() { throw 1; } function g() { f(); } [g()]; => threw 1
		if (true) throw 1; else throw 2; => threw 1
		throw 1; throw 2; => threw 1
		let a = 1; try { a = 2; throw 3; } catch (e) { a = a + e; } a; => 5`)
}

func TestTry(t *testing.T) {
	gives(t, "P2002", `
		try { throw 1; } catch (e) { e; } => 1
		try { throw undefined; } catch (e) { typeof e; } => "undefined"
		try { null.a; } catch (e) { e; } => TypeError
		try { a; } catch (e) { e; } => ReferenceError
		try { 9007199254740991 + 1; } catch (e) { e; } => RangeError
		try { (function () { throw 1; })(); } catch (e) { e; } => 1
		try { 1; } catch (e) { 2; } => 1
		try { throw 1; } catch (e) { throw e + 1; } => threw 2
		try { try { throw 1; } catch (e) { throw e + 1; } } catch (e) { e + 1; } => 3
		try { throw 1; } finally { 2; } => threw 1
		try { throw 1; } finally { throw 2; } => threw 2
		try { throw 1; } catch (e) { throw 2; } finally { throw 3; } => threw 3
		try { throw 1; } catch (e) { throw 2; } finally { 3; } => threw 2
		try { } finally { throw 3; } => threw 3
		try { throw 1; } catch (e) { let f = 2; e + f; } => 3
		try { throw 1; } catch (e) { let e = 2; e; } => 2
		try { throw 1; } catch (e) { e = 2; e; } => 2
		let e = 0; try { throw 1; } catch (e) { e = 2; } e; => 0
		try { throw 1; } catch (e) { } e; => threw ReferenceError
		let a = 1; try { let a = 2; throw a; } catch (e) { a + e; } => 3
		let a = 1; try { let a = 2; throw a; } catch (e) { } a; => 1
		let a = 1; try { { { let a = 2; throw a; } } } catch (e) { a; } => 1
		let a = 1; try { let a = 2; { throw a; } } finally { a; } => threw 2
		let b = 0; let a = 1; try { try { let a = 2; { throw a; } } finally { b = a; } } catch (e) { } b; => 1
		let b = 0; let a = 1; try { throw 1; } catch (e) { let a = 2; } finally { b = a; } b; => 1
		let b = 0; let a = 1; try { try { throw 1; } catch (e) { let a = 2; throw 2; } finally { b = a; } } catch (e) { } b; => 1
		try { throw 1; } catch (e) { try { throw 2; } catch (e) { e; } } => 2
		try { try { throw 1; } finally { } } catch (e) { e; } => 1
		try { try { throw 1; } finally { throw 2; } } catch (e) { e; } => 2
		while (true) try { break; } finally { 1; } => 1
		while (true) { try { throw 1; } catch (e) { break; } finally { 2; } } => 2
		while (true) { try { throw 1; } finally { break; } } 2; => 2
		let i = 0; while (i < 3) { try { throw 1; } finally { i = i + 1; continue; } } i; => 3
		let i = 0; while (i < 3) { try { continue; } finally { i = i + 1; } } i; => 3
		let i = 0; while (i < 3) { try { continue; } finally { i = i + 1; break; } } i; => 1
		let i = 0; while (i < 3) { try { break; } finally { i = i + 1; continue; } } i; => 3
		function f() { try { return 1; } finally { } } f(); => 1
		function f() { try { return 1; } finally { return 2; } } f(); => 2
		function f() { try { throw 1; } finally { return 2; } } f(); => 2
		function f() { try { throw 1; } catch (e) { return e; } finally { } } f(); => 1
		function f() { try { return 1; } finally { throw 2; } } f(); => threw 2
		function f() { try { return 1; } catch (e) { return 2; } } f(); => 1
		function f() { try { throw 1; } catch (e) { return e + 1; } return 5; } f(); => 2
		function f() { while (true) { try { return 1; } finally { break; } } return 2; } f(); => 2
		function f() { while (true) { try { break; } finally { return 1; } } } f(); => 1
		function f() { try { try { return 1; } finally { 2; } } finally { 3; } } f(); => 1`)
	prints(t, "P2002", `
		try { print(1); throw 2; print(3); } catch (e) { print(e); } finally { print(4); } => 1 | 2 | 4 | undefined
		try { print(1); } catch (e) { print(e); } finally { print(4); } => 1 | 4 | undefined
		try { try { print(1); throw 2; } finally { print(3); } } finally { print(4); } => 1 | 3 | 4 | threw 2
		function f() { try { return print(1); } finally { print(2); } } f(); print(3); => 1 | 2 | 3 | undefined
		let i = 0; while (i < 3) { i = i + 1; try { if (i === 2) continue; print(i); } finally { print(-i); } } => 1 | -1 | -2 | 3 | -3 | undefined`)
}

// TestNothingIsCaughtWithoutFuel, room or depth: neither catch nor finally is
// executed.
func TestNothingIsCaughtWithoutFuelRoomOrDepth(t *testing.T) {
	spends := map[int]string{
		api.NoFuel:  "while (true) ;",
		api.NoRoom:  "while (true) ({});",
		api.TooDeep: "f(); function f() { f(); }",
	}
	for flow, cause := range spends {
		for _, source := range []string{
			"try { ^ } catch (e) { print(1); } print(2);",
			"try { ^ } finally { print(1); } print(2);",
			"try { ^ } catch (e) { print(1); } finally { print(2); } print(3);",
			"try { throw 1; } catch (e) { ^ } finally { print(2); } print(3);",
			"try { } finally { ^ } print(3);",
			"try { throw 1; } finally { ^ } print(3);",
			"while (true) { try { ^ } finally { break; } } print(1);",
			"function g() { try { ^ } finally { return 1; } } g(); print(1);",
			"try { (function () { ^ })(); } catch (e) { print(1); } finally { print(2); }",
			"try { new (function () { ^ })(); } catch (e) { print(1); } finally { print(2); }",
			"try { ({get a() { ^ }}).a; } catch (e) { print(1); } finally { print(2); }",
			"try { new Proxy({}, {has: function () { ^ }}).a in {}; 'a' in new Proxy({}, {has: function () { ^ }}); } catch (e) { print(1); } finally { print(2); }",
		} {
			m := machine{New(api.Bounds{Fuel: 30000, Room: 1000, Deep: 50}), t}
			source = with(source, cause)
			r := m.run(source)
			if show(r) != show(api.Reply{Flow: flow}) || len(m.Out()) != 0 {
				t.Errorf("P2002: %s: %s, %q, want the flow %d", source, m.tell(r), m.Out(), flow)
			}
		}
	}
}

// TestFunctionsAreCreatedFirst: they are created before the first statement, in order.
func TestFunctionsAreCreatedFirst(t *testing.T) {
	m := fresh(t)
	m.done("let o = {}; function f() { } { function g() { } } const p = []; function h() { }")
	kinds := []int{api.Function, api.Plain, api.Function, api.Plain, api.Plain, api.Function, api.Plain, api.Array}
	numbers := []int{0, 0, 2, 0, 0, 1, 0, 0}
	scopes := []int{1, 0, 1, 0, 0, 2, 0, 0}
	for i, x := range m.objects()[built:] {
		if x.Kind != kinds[i] || x.N != numbers[i] || x.Env != scopes[i] {
			t.Errorf("P2002: the object %d is %+v", i, x)
		}
	}
}

// TestNothingIsLeft of what was evaluated when a program ends, also where
// expressions were interrupted, so that long programs need no more memory.
func TestNothingIsLeft(t *testing.T) {
	for _, s := range append(examples(), "let i = 9; while (i) { i = i - 1; try { let o = {a: [1, 2 + i.b.c]}; } catch (e) { i[0] = 1 + e; } finally { continue; } }") {
		m := fresh(t)
		x := &execution{m: m.Machine, w: m.World(), env: m.scopes.Make(0)}
		env := x.env
		if r := x.run(m.keep(tree(t, s))); r.Flow != api.Done {
			continue
		}
		if len(x.values) != 0 || len(x.places) != 0 || len(x.tasks) != 0 || x.env != env {
			t.Errorf("P2002: %s leaves %+v, %+v, %+v, the scope %d", s, x.values, x.places, x.tasks, x.env)
		}
	}
}
