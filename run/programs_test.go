package run

import (
	"slices"
	"strings"
	"testing"

	"understudy/api"
)

// program is one of more than a line, with what it prints and how it ends.
type program struct{ what, source, want string }

// programs use each part of the language.
func programs() []program {
	return []program{
		{"closures", `
			function counter(n) { return function () { n = n + 1; return n; }; }
			const a = counter(0); const b = counter(10);
			print(a(), a(), b(), a());`, `|1 2 11 3 value undefined`},
		{"recursion", `
			function fib(n) { return n < 2 ? n : fib(n - 1) + fib(n - 2); }
			fib(12);`, `value 144`},
		{"loops", `
			let l = []; let i = 0;
			while (true) { i = i + 1; if (i % 2 === 0) continue; if (i > 9) break; l[l.length] = i; }
			print(l.length, l[4], i); Object.keys(l).length;`, `|5 9 11 value 5`},
		{"constructors", `
			function Point(x, y) { this.x = x; this.y = y; }
			Point.prototype.sum = function () { return this.x + this.y; };
			const p = new Point(3, 4);
			print(p.sum(), Object.keys(p).length, "sum" in p, Reflect.has(p, "z"));
			Reflect.getPrototypeOf(p) === Point.prototype;`, `|7 2 true false value true`},
		{"flows", `
			function f() { try { throw "t"; } catch (e) { print(e); return "c"; } finally { print("f"); } }
			function g() { while (true) { try { return 1; } finally { break; } } return 2; }
			print(f(), g());
			try { try { null.a; } finally { print("still"); } } catch (e) { print(e.name); }
			throw {};`, `|"t" |"f" |"c" 2 |"still" |"TypeError" throw object`},
		{"accessors", `
			const o = {get a() { print("get"); return this.b; }, set a(v) { print("set", v); this.b = v; }};
			o.a = 5; const p = Object.create(o); p.a = 6;
			print(o.a, p.a, Object.keys(p)[0]); delete p.b; p.a;`, `|"set" 5 |"set" 6 |"get" |"get" |5 6 "b" |"get" value 5`},
		{"arrays", `
			const l = [1, 2, 3]; l[5] = 6; print(l.length, 4 in l, Array.isArray(l), Array.isArray({}));
			l.length = 1; print(l[0], l[1], l.length);
			Object.freeze(l); try { l[0] = 2; } catch (e) { print(e.name, l[0]); }
			[].length = 4294967296;`, `|6 false true false |1 undefined 1 |"TypeError" 1 throw RangeError`},
		{"symbols", `
			const s = Symbol(); const o = {[s]: 1, a: 2}; print(o[s], Object.keys(o).length, Reflect.ownKeys(o).length);
			typeof Reflect.ownKeys(o)[1];`, `|1 1 2 value "symbol"`},
		{"bound functions", `
			function f(a, b) { return [this, a, b]; }
			const g = f.bind("t", 1); const l = g(2, 3);
			print(l[0], l[1], l[2]); print(f.call(4, 5)[0], Reflect.apply(g, 0, [7])[2]);
			new g(8)[1];`, `|"t" 1 2 |4 7 value 1`},
		{"operators", `
			print("a" + 1, 7 % 3, 7 / 2, -"5", !0, "10" < "9", "10" < 9, null + 1, true + true);
			print(typeof null, typeof print, typeof nothing, 1 && 0 || "z");
			"x" * 2;`, `|"a1" 1 3 -5 true true false 1 2 |"object" "function" "undefined" "z" throw TypeError`},
		{"names", `
			try { x; } catch (e) { print(e.name); } let x = 1; const c = 2;
			try { c = 3; } catch (e) { print(e.name); } { let x = 5; print(x); } print(x); y = 1;`,
			`|"ReferenceError" |"TypeError" |5 |1 throw ReferenceError`},
		{"a handler that prints", `
			const h = new Proxy({}, {get: function (t, k) { print(k); }});
			const p = new Proxy({a: 1}, h);
			p.a; p.b = 2; "a" in p; delete p.b; Object.keys(p); Object.freeze(p); Reflect.getPrototypeOf(p);`,
			`|"get" |"set" |"getOwnPropertyDescriptor" |"defineProperty" |"has" |"deleteProperty" |"ownKeys" |"getOwnPropertyDescriptor" |"preventExtensions" |"ownKeys" |"getOwnPropertyDescriptor" |"defineProperty" |"getPrototypeOf" value object`},
		{"handlers that lie", `
			const t = Object.freeze({a: 1});
			function fails(f) { try { f(); print("no"); } catch (e) { print(e.name); } }
			fails(function () { return new Proxy(t, {get: function () { return 2; }}).a; });
			fails(function () { return "a" in new Proxy(t, {has: function () { return false; }}); });
			fails(function () { return Reflect.ownKeys(new Proxy(t, {ownKeys: function () { return ["a", "b"]; }})); });
			fails(function () { return Reflect.isExtensible(new Proxy(t, {isExtensible: function () { return true; }})); });
			new Proxy(t, {get: function (t, k, r) { return k === "a" ? 1 : r; }}).b;`, `|"TypeError" |"TypeError" |"TypeError" |"TypeError" value object`},
		{"handlers that begin to lie", `
			let lying = false; const h = {};
			function lie(trap, l) { h[trap] = function (t, k, v) { return lying ? l : Reflect[trap](t, k, v); }; }
			lie("getPrototypeOf", null); lie("setPrototypeOf", true); lie("isExtensible", true); lie("getOwnPropertyDescriptor", undefined);
			lie("defineProperty", true); lie("has", false); lie("get", 2); lie("set", true); lie("deleteProperty", true); lie("ownKeys", []);
			const p = new Proxy(Object.freeze({x: 1}), h);
			print(Reflect.isExtensible(p), Reflect.getPrototypeOf(p) === null, Reflect.ownKeys(p).length, p.y, p.x);
			print(Reflect.getOwnPropertyDescriptor(p, "x").writable, Reflect.getOwnPropertyDescriptor(p, "y"));
			lying = true;
			function fails(f) { try { f(); print("no"); } catch (e) { print(e.name); } }
			fails(function () { Reflect.getPrototypeOf(p); }); fails(function () { Reflect.setPrototypeOf(p, null); });
			fails(function () { Reflect.isExtensible(p); }); fails(function () { Reflect.getOwnPropertyDescriptor(p, "x"); });
			fails(function () { p.y = 1; Reflect.defineProperty(p, "y", {value: 1}); }); fails(function () { "x" in p; });
			fails(function () { p.x; }); fails(function () { p.x = 3; }); fails(function () { delete p.x; }); fails(function () { Reflect.ownKeys(p); });
			lying = false; p.x;`, "|false false 1 undefined 1 |false undefined" + strings.Repeat(` |"TypeError"`, 10) + " value 1"},
		{"revoked proxies", `
			const r = Proxy.revocable(function () { return 5; }, {}); print(r.proxy()); r.revoke();
			print(typeof r.proxy); try { r.proxy.a; } catch (e) { print(e.name); } r.proxy();`,
			`|5 |"function" |"TypeError" throw TypeError`},
		{"proxies of proxies", `
			let p = {a: 1}; let i = 0; while (i < 10) { p = new Proxy(p, {get: function (t, k, r) { return t[k] + 1; }}); i = i + 1; }
			p.a;`, `value 11`},
		{"constructors behind proxies", `
			function C(a) { this.a = a; } const P = new Proxy(C, {construct: function (t, l, n) { print(l[0], n === P); return Reflect.construct(t, l, n); }});
			const o = new P(5); print(o.a, Reflect.getPrototypeOf(o) === C.prototype); P(1);`, `|5 true |5 true throw TypeError`},
	}
}

// TestPrograms: W1.
func TestPrograms(t *testing.T) {
	for _, p := range programs() {
		if got := told(p.source, plenty()); got != p.want {
			t.Errorf("W1: %s give\n%s, want\n%s", p.what, got, p.want)
		}
	}
}

// TestTransparency: W4, a program does with a proxy that has no traps what it
// does with the target.
func TestTransparency(t *testing.T) {
	for _, target := range []string{"{}", "{a: 1, get b() { return 2; }}", "[1, 2]", "function (a) { return a; }", "Object.freeze({a: 1})", "Object.create({a: 3})", "print.bind(1, 2)", "Reflect.get"} {
		for _, use := range []string{
			"print(o.a, o.b, o.length, o[0]); o.a = 5; print(o.a); delete o.a; o.a;",
			"o[7] = 1; Object.keys(o).length;",
			"print(typeof o, 'a' in o, Array.isArray(o)); Object.seal(o); print(Object.isFrozen(o), Object.isSealed(o)); o.z = 1;",
			"Reflect.setPrototypeOf(o, {q: 1}); print(o.q); Reflect.preventExtensions(o); Reflect.setPrototypeOf(o, null);",
			"Reflect.defineProperty(o, 'a', {value: 1}); print(Reflect.getOwnPropertyDescriptor(o, 'a').writable); o.a = 2;",
			"print(o(4)); new o(5);",
			"o.length = 1; print(o.length, Reflect.ownKeys(o).length); o;",
		} {
			plain, proxy := "let o = "+target+"; "+use, "let o = new Proxy("+target+", {}); "+use
			if one, two := told(plain, plenty()), told(proxy, plenty()); one != two {
				t.Errorf("W4: %s gives %s, by a proxy %s", plain, one, two)
			}
		}
	}
}

// TestEveryBound: P2102 and W3, what a program needs is enough for it, and so
// is more; where a bound is less, this and nothing else ends the program, and
// what it has printed until then remains.
func TestEveryBound(t *testing.T) {
	for _, p := range programs() {
		need, whole := needs(t, p.source), Run([]byte(p.source), plenty())
		for _, more := range []api.Bounds{need, {Fuel: need.Fuel, Room: need.Room + 1, Deep: need.Deep}, {Fuel: need.Fuel + 1, Room: need.Room, Deep: need.Deep + 1}} {
			if got := Run([]byte(p.source), more); show(got) != show(whole) {
				t.Errorf("W3: %s with enough give %+v, want %+v", p.what, got, whole)
			}
		}
		less := func(tag int, b api.Bounds) {
			got := Run([]byte(p.source), b)
			if got.Tag != tag || got.At != 0 || got.Shown != "" || !isPrefix(got.Out, whole.Out) {
				t.Errorf("W3: %s with %+v give %+v", p.what, b, got)
			}
		}
		for fuel := -1; fuel < need.Fuel; fuel += 1 + need.Fuel/300 {
			less(api.OFuel, api.Bounds{Fuel: fuel, Room: need.Room, Deep: need.Deep})
		}
		for room := -1; room < need.Room; room++ {
			less(api.ORoom, api.Bounds{Fuel: need.Fuel, Room: room, Deep: need.Deep})
		}
		for deep := -1; deep < need.Deep; deep++ {
			less(api.ODeep, api.Bounds{Fuel: need.Fuel, Room: need.Room, Deep: deep})
		}
	}
}

func isPrefix(l, whole []string) bool {
	return len(l) <= len(whole) && slices.Equal(l, whole[:len(l)])
}

// TestGreatestBounds: any numbers are bounds, and depth has a limit of its own.
func TestGreatestBounds(t *testing.T) {
	const most = int(^uint(0) >> 1)
	greatest, least := api.Bounds{Fuel: most, Room: most, Deep: most}, api.Bounds{Fuel: -most - 1, Room: -most - 1, Deep: -most - 1}
	for _, p := range programs() {
		if got := told(p.source, greatest); got != p.want {
			t.Errorf("W3: %s with the greatest bounds give %s, want %s", p.what, got, p.want)
		}
		if got := told(p.source, least); got != "room" {
			t.Errorf("W3: %s with the least bounds give %s", p.what, got)
		}
	}
	if got := told("(function f() { f(); })();", greatest); got != "deep" {
		t.Errorf("W3: calls without end give %s", got)
	}
	if got := told("1;", api.Bounds{Fuel: -1, Room: built, Deep: -1}); got != "fuel" {
		t.Errorf("W3: without fuel %s", got)
	}
	if got := told("1;", api.Bounds{Fuel: 2, Room: built, Deep: -1}); got != "value 1" {
		t.Errorf("W3: with enough fuel %s", got)
	}
}

// TestInvariants: P2102, handlers that lie don't get their lies into the log.
func TestInvariants(t *testing.T) {
	for _, p := range programs() {
		l := Seen([]byte(p.source), plenty())
		if at := firstViolation(l); at >= 0 {
			t.Errorf("W2: %s: the element %d of the log is %+v", p.what, at, l[at])
		}
		if len(l) == 0 {
			t.Errorf("W2: %s: the log is empty", p.what)
		}
	}
}
