package run

import (
	"strings"
	"testing"

	"understudy/api"
)

// TestValues: P2101, what is shown of the value of a program.
func TestValues(t *testing.T) {
	gives(t, `
		1 + 2; => value 3
		; => value undefined
		undefined; => value undefined
		let a = 5; => value undefined
		4; let a = 5; => value 4
		null; => value null
		true; => value true
		1 === 2; => value false
		0 - 7; => value -7
		9007199254740991; => value 9007199254740991
		"a"; => value "a"
		""; => value ""
		"a\"\\\n\u00e9\ud83d"; => value "a\u0022\u005c\u000a\u00e9\ud83d"
		"😀"; => value "\ud83d\ude00"
		Symbol(); => value symbol
		({}); => value object
		[]; => value object
		(function () {}); => value function
		print; => value function
		Proxy; => value function
		Object; => value object
		print.bind(1); => value function
		new Proxy({}, {}); => value object
		new Proxy(print, {}); => value function
		let r = Proxy.revocable(print, {}); r.revoke(); r.proxy; => value function
		let r = Proxy.revocable({}, {}); r.revoke(); r.proxy; => value object
		let e; try { null.a; } catch (x) { e = x; } e; => value object
		try { null.a; } catch (e) { e.name; } => value "TypeError"
		({name: "x"}); => value object
		(function f() { 5; })(); => value undefined
		(function f() { return 5; })(); => value 5`)
}

// TestThrown: P2101, what is shown of a value that was thrown and is no error.
func TestThrown(t *testing.T) {
	gives(t, `
		throw undefined; => throw undefined
		throw null; => throw null
		throw true; => throw true
		throw 0 - 1; => throw -1
		throw 31; => throw 31
		throw "TypeError"; => throw "TypeError"
		throw "a\"b"; => throw "a\u0022b"
		throw ""; => throw ""
		throw Symbol(); => throw symbol
		throw {}; => throw object
		throw {name: "TypeError"}; => throw object
		let f = function () {}; f.name = "x"; throw f; => throw function
		let l = []; l.name = "x"; throw l; => throw object
		throw print; => throw function
		let b = print.bind(1); b.name = "x"; throw b; => throw function
		throw new Proxy(print, {}); => throw function
		throw new Proxy({name: "x"}, {}); => throw object
		try { null.a; } catch (e) { throw new Proxy(e, {}); } => throw object
		try { null.a; } catch (e) { throw Object.create(e); } => throw object
		try { null.a; } catch (e) { throw e.name; } => throw "TypeError"
		1; throw 2; => throw 2`)
}

// TestErrors: P2101, what is shown of an error is its name, if this is an own
// data property that is a string.
func TestErrors(t *testing.T) {
	gives(t, `
		null.a; => throw TypeError
		a; => throw ReferenceError
		1 / 0; => throw RangeError
		let l = []; l.length = 0 - 1; => throw RangeError
		(function () { null.a; })(); => throw TypeError
		try { null.a; } catch (e) { throw e; } => throw TypeError
		try { null.a; } finally { 1; } => throw TypeError
		try { null.a; } finally { a; } => throw ReferenceError
		try { null.a; } catch (e) { e.name = "x"; throw e; } => throw x
		try { null.a; } catch (e) { e.name = 5; throw e; } => throw object
		try { null.a; } catch (e) { e.name = undefined; throw e; } => throw object
		try { null.a; } catch (e) { e.name = print; throw e; } => throw object
		try { null.a; } catch (e) { e.name = {name: "x"}; throw e; } => throw object
		try { null.a; } catch (e) { delete e.name; throw e; } => throw object
		try { null.a; } catch (e) { delete e.name; Reflect.setPrototypeOf(e, {name: "x"}); throw e; } => throw object
		try { null.a; } catch (e) { Reflect.defineProperty(e, "name", {get: function () { return "x"; }}); throw e; } => throw object
		try { null.a; } catch (e) { Reflect.defineProperty(e, "name", {value: "x", enumerable: true}); throw Object.freeze(e); } => throw x
		try { null.a; } catch (e) { Reflect.setPrototypeOf(e, {name: "y"}); throw e; } => throw TypeError
		try { null.a; } catch (e) { e.b = 1; e.message = "m"; throw e; } => throw TypeError
		try { null.a; } catch (e) { Reflect.setPrototypeOf(e, new Proxy({}, {get: null.b})); throw e; } => throw TypeError
		try { null.a; } catch (e) { let n = e.name; delete e.name; e.b = 1; e.name = n; throw e; } => throw TypeError`)
}

// TestShownOfErrors: the name of an error is shown as it is, also one with
// units that Show would write otherwise.
func TestShownOfErrors(t *testing.T) {
	for _, name := range []string{"", "a\n", "a b", "é😀", "\xed\xa0\xbd", "1", strings.Repeat("x", api.MaxUnits)} {
		escaped := strings.NewReplacer("\n", `\n`, "\xed\xa0\xbd", `\ud83d`).Replace(name)
		o := Run([]byte(`try { null.a; } catch (e) { e.name = "`+escaped+`"; throw e; }`), plenty())
		if o.Tag != api.OThrow || o.Shown != name {
			t.Errorf("P2101: an error with the name %q gives %+v", name, o)
		}
	}
}

// TestPrinted: P2101, what was printed is told however the program ends.
func TestPrinted(t *testing.T) {
	gives(t, `
		print(1 + 2); => |3 value undefined
		print(); => | value undefined
		print("a", null, {}); print([], print); 5; => |"a" null object |object function value 5
		print(1); throw 2; => |1 throw 2
		print(1); null.a; print(2); => |1 throw TypeError
		function f() { print(1); f(); } try { print(0); null.a; } catch (e) { print(e.name); } => |0 |"TypeError" value undefined
		while (true) { let i; } => fuel
		print(1); while (true) ; => |1 fuel
		print(1); let l; while (true) l = []; => |1 room
		print(1); function f() { f(); } f(); => |1 deep
		function f(n) { print(n); if (n > 1) f(n - 1); else f = 0; } f(3); => |3 |2 |1 value undefined
		print(1); let a = ; => syntax 18
		print(1); break; => syntax 0`)
}

// TestBoundsAreNotCaught: P2101, what a bound has ended has nothing to show.
func TestBoundsAreNotCaught(t *testing.T) {
	gives(t, `
		5; try { while (true) ; } catch (e) { print(e); } finally { print(1); } => fuel
		5; try { let l; while (true) l = []; } catch (e) { print(e); } finally { print(1); } => room
		5; function f() { try { f(); } catch (e) { print(e); } finally { print(1); } } f(); => deep`)
	for _, tag := range []int{api.OFuel, api.ORoom, api.ODeep} {
		source := map[int]string{api.OFuel: "1; while (true) ;", api.ORoom: "1; let l; while (true) l = {};", api.ODeep: "1; (function f() { f(); })();"}[tag]
		if o := Run([]byte(source), plenty()); show(o) != show(api.Outcome{Tag: tag}) {
			t.Errorf("P2101: %s gives %+v", source, o)
		}
	}
}

// TestWithoutRoom: where there is no room for what every program has, nothing
// is executed, but the errors of the source are found.
func TestWithoutRoom(t *testing.T) {
	for room := -1; room < built; room++ {
		b := plenty()
		b.Room = room
		for _, source := range []string{"", "1;", "print(1);", "throw 1;"} {
			if got := told(source, b); got != "room" {
				t.Errorf("P2101: %q with room %d gives %s", source, room, got)
			}
		}
		for source, want := range map[string]string{"a": "syntax 1", "return;": "syntax 0", strings.Repeat("(", 200): "deep 49"} {
			if got := told(source, b); got != want {
				t.Errorf("P2101: %q with room %d gives %s, want %s", source, room, got, want)
			}
		}
	}
	for source, want := range map[string]string{"": "value undefined", ";": "fuel", "a": "syntax 1", "return;": "syntax 0"} {
		if got := told(source, api.Bounds{Room: built}); got != want {
			t.Errorf("P2101: %q with nothing but room gives %s, want %s", source, got, want)
		}
	}
}
