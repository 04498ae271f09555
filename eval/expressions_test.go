package eval

import (
	"strings"
	"testing"

	"understudy/api"
)

func TestLiterals(t *testing.T) {
	gives(t, "P2003", `
		0; => 0
		9007199254740991; => 9007199254740991
		""; => ""
		"a\ud83db"; => "a\ud83db"
		true; => true
		false; => false
		null; => null
		undefined; => undefined
		this; => undefined
		{ this; } => undefined
		(1); => 1`)
}

func TestThis(t *testing.T) {
	gives(t, "P2003", `
		function f() { return this; } f(); => undefined
		(function () { return this; })(); => undefined
		let o = {f: function () { return this; }}; o.f() === o; => true
		let o = {f: function () { return this; }}; o["f"]() === o; => true
		let o = {f: function () { return this; }}; (o.f)() === o; => true
		let o = {f: function () { return this; }}; (true && o.f)(); => undefined
		let o = {f: function () { return this; }}; let f = o.f; f(); => undefined
		let o = {f: function () { return (function () { return this; })(); }}; o.f(); => undefined
		let o = {get a() { return this; }}; o.a === o; => true
		let o = {set a(v) { v.b = this; }}; let p = {}; o.a = p; p.b === o; => true
		function f() { return this; } f.call(5); => 5
		function f() { return this; } f.call(null); => null
		function f() { return this; } f.bind("a")(); => "a"
		let t; function f() { t = this; } let o = new f(); t === o; => true
		let o = {f: function () { let a = []; { a[0] = this; } return a[0]; }}; o.f() === o; => true
		let o = {f: function () { let g = function () { }; g(); return this; }}; o.f() === o; => true
		[].f; => undefined`)
}

func TestNames(t *testing.T) {
	gives(t, "P2003", `
		typeof Proxy; => "function"
		typeof Reflect; => "object"
		typeof Object; => "object"
		typeof Symbol; => "function"
		typeof Array; => "object"
		typeof print; => "function"
		call; => threw ReferenceError
		let get = 1; let set = 2; get + set; => 3`)
}

func TestArrays(t *testing.T) {
	gives(t, "P2003", `
		[]; => []
		[1, "a", null]; => [1 "a" null]
		[[1], [[]]]; => [[1] [[]]]
		[].length; => 0
		[1, 2].length; => 2
		let i = 0; [(i = i + 1), (i = i + 1), i]; => [1 2 2]
		let a = [1]; a[3] = 2; a.length; => 4
		Array.isArray([]); => true
		Reflect.getPrototypeOf([]) === Reflect.getPrototypeOf([1]); => true
		Object.keys([7, 8]); => ["0" "1"]
		[1, null.a, a]; => threw TypeError
		[1, a, null.a]; => threw ReferenceError`)
}

func TestObjects(t *testing.T) {
	gives(t, "P2003", `
		typeof {}; => "object"
		({}).a; => undefined
		({a: 1}).a; => 1
		({"a": 1}).a; => 1
		({7: 1})["7"]; => 1
		({if: 1}).if; => 1
		({["a" + "b"]: 1}).ab; => 1
		({[1]: 2})[1]; => 2
		({[null]: 2}).null; => 2
		({[undefined]: 2}).undefined; => 2
		({[true]: 2}).true; => 2
		({[{}]: 2}); => threw TypeError
		({[print]: 2}); => threw TypeError
		({[{}]: a}); => threw TypeError
		({[a]: null.a}); => threw ReferenceError
		({a: a, [{}]: 2}); => threw ReferenceError
		let s = Symbol(); ({[s]: 2})[s]; => 2
		let s = Symbol(); ({[s]: 2})[Symbol()]; => undefined
		({a: 1, a: 2}).a; => 2
		({get a() { return 1; }}).a; => 1
		({get a() { return 1; }, a: 2}).a; => 2
		({a: 2, get a() { return 1; }}).a; => 1
		({get a() { return 1; }, set a(v) { }}).a; => 1
		({set a(v) { }, get a() { return 1; }}).a; => 1
		({set a(v) { }}).a; => undefined
		({get "a b"() { return 1; }})["a b"]; => 1
		({get 1() { return 1; }})[1]; => 1
		({get: 1, set: 2}).get; => 1
		({get get() { return 3; }}).get; => 3
		let o = {set a(v) { this.b = v + 1; }}; o.a = 1; o.b; => 2
		let o = {set a(v) { this.b = v + 1; }}; o.a = 1; => 1
		let i = 0; let o = {[(i = i + 1)]: (i = i + 1), [(i = i + 1)]: (i = i + 1)}; [o[1], o[3]]; => [2 4]
		let o = {b: 1, a: 2, 1: 3, 0: 4}; Object.keys(o); => ["0" "1" "b" "a"]
		let o = {b: 1, get a() { }, 1: 3, set c(v) { }}; Object.keys(o); => ["1" "b" "a" "c"]
		let o = {a: {b: {c: 1}}}; o.a.b.c; => 1
		let o = {a: {b: 1}, c: 2}; o.a.b + o.c; => 3
		Reflect.getPrototypeOf({}) === Reflect.getPrototypeOf(Reflect); => true
		Reflect.getPrototypeOf(Reflect.getPrototypeOf({})); => null
		({prototype: 1}).prototype; => 1`)
}

// TestProperties of an object that a program writes.
func TestProperties(t *testing.T) {
	m := fresh(t)
	v := m.done("({a: 1, get b() { }, set c(v) { }, [2]: 3, get d() { }, set d(v) { }, e: 1, get e() { }, get f() { }, f: 1});")
	x := m.thing(v)
	all := data(undefined, true, true, true)
	get := api.Desc{HasGet: true, HasSet: true, HasEnumerable: true, Enumerable: true, HasConfigurable: true, Configurable: true}
	want := []api.Entry{{Key: name("a"), Desc: all}, {Key: name("b"), Desc: get}, {Key: name("c"), Desc: get}, {Key: name("2"), Desc: all}, {Key: name("d"), Desc: get}, {Key: name("e"), Desc: get}, {Key: name("f"), Desc: all}}
	want[0].Desc.Value, want[3].Desc.Value, want[6].Desc.Value = number(1), number(3), number(1)
	want[1].Desc.Get, want[2].Desc.Set, want[4].Desc.Get, want[4].Desc.Set, want[5].Desc.Get = obj(33), obj(35), obj(37), obj(39), obj(41)
	if v != obj(32) || show(x) != show(api.Thing{Kind: api.Plain, Proto: obj(0), Extensible: true, Props: want}) {
		t.Errorf("P2003: the object %d is\n%+v, want\n%+v", v.Num, x.Props, want)
	}
	v = m.done("[4, {}];")
	if x = m.thing(v); x.Kind != api.Array || x.Proto != obj(2) || !x.Extensible || len(x.Props) != 3 || x.Props[2].Desc.Value != obj(v.Num-1) {
		t.Errorf("P2003: the array %d is %+v", v.Num, x)
	}
}

func TestMembers(t *testing.T) {
	gives(t, "P2003", `
		null.a; => threw TypeError
		undefined.a; => threw TypeError
		(1).a; => threw TypeError
		"a".length; => threw TypeError
		true["a"]; => threw TypeError
		Symbol().a; => threw TypeError
		null[{}]; => threw TypeError
		null[a]; => threw ReferenceError
		a[null.a]; => threw ReferenceError
		({})[{}]; => threw TypeError
		({})[print]; => threw TypeError
		({a: 1})["a"]; => 1
		({null: 1})[null]; => 1
		({undefined: 1})[undefined]; => 1
		({true: 1})[true]; => 1
		({"-5": 1})[-5]; => 1
		({}).a.b; => threw TypeError
		print.a; => undefined
		let f = function () { }; f.a = 1; f.a; => 1
		let o = Object.create({a: 1}); o.a; => 1
		let o = Object.create({get a() { return this; }}); o.a === o; => true
		({get a() { throw 1; }}).a; => threw 1
		({get a() { return null.a; }}).a; => threw TypeError
		let p = new Proxy({}, {get: function (t, k, r) { return k; }}); p.abc + p[1]; => "abc1"
		let p = new Proxy({}, {get: function (t, k, r) { return r; }}); p.a === p; => true
		let s = Symbol(); let p = new Proxy({}, {get: function (t, k) { return k === s; }}); p[s]; => true`)
}

func TestAssignments(t *testing.T) {
	gives(t, "P2003", `
		let a; a = 1; => 1
		let a; let b; a = b = 2; [a, b]; => [2 2]
		let o = {}; o.a = 1; => 1
		let o = {}; o.a = o.b = 2; [o.a, o.b]; => [2 2]
		let o = {}; o["a"] = 1; o.a; => 1
		let o = {}; o[1 + 1] = 1; o[2]; => 1
		let o = {}; o.a = {}; o.a.b = 3; o.a.b; => 3
		let o = {a: {}}; o.a.b = (o.a = {}).c = 4; [o.a.b, o.a.c]; => [undefined 4]
		let o = {a: 0}; let i = 0; o[(i = i + 1)] = i = i + 1; [o[1], i]; => [2 2]
		let o = {}; let k = "a"; o[k] = k = "b"; Object.keys(o); => ["a"]
		let o = {}; let p = o; o.a = o = 5; p.a; => 5
		let i = 0; let l = [0, 0]; l[i] = l[(i = 1)] = 7; l; => [7 7]
		null.a = 1; => threw TypeError
		null.a = a; => threw TypeError
		null[a] = 1; => threw ReferenceError
		({})[{}] = a; => threw TypeError
		(5).a = 1; => threw TypeError
		a = null.a; => threw TypeError
		a = 1; => threw ReferenceError
		b = a; let a; => threw ReferenceError
		const a = 1; a = null.a; => threw TypeError
		const a = 1; a = b; => threw ReferenceError
		const a = 1; try { a = 2; } catch (e) { } a; => 1
		let o = Object.freeze({a: 1}); o.a = 2; => threw TypeError
		let o = Object.freeze({a: 1}); o.b = 2; => threw TypeError
		let o = {get a() { return 1; }}; o.a = 2; => threw TypeError
		let o = {set a(v) { throw v; }}; o.a = 2; => threw 2
		let o = {set a(v) { this.b = v; return 7; }}; [o.a = 2, o.b]; => [2 2]
		let o = Object.create({set a(v) { this.b = v; }}); o.a = 2; Object.keys(o); => ["b"]
		let o = new Proxy({}, {set: function () { return false; }}); o.a = 1; => threw TypeError
		let o = new Proxy({}, {set: function () { return 5; }}); o.a = 1; => 1
		let o = new Proxy({}, {set: function (t, k, v, r) { throw [k, v, r === o]; }}); o.a = 1; => threw ["a" 1 true]
		let l = [1, 2, 3]; l.length = 1; l; => [1]
		let l = []; l.length = "a"; => threw RangeError
		let a = 1; function f() { a = a + 1; return a; } a = f() + a; => 4`)
}

func TestCalls(t *testing.T) {
	gives(t, "P2003", `
		print(); => undefined
		(function () { return 1; })(); => 1
		(function (a, b) { return [b, a]; })(1, 2); => [2 1]
		(function (a, b) { return [b, a]; })(1); => [undefined 1]
		(function (a) { return a; })(1, 2); => 1
		let i = 0; (function (a, b, c) { return [a, b, c]; })((i = i + 1), (i = i + 1), i); => [1 2 2]
		null(); => threw TypeError
		undefined(); => threw TypeError
		(5)(); => threw TypeError
		"a"(); => threw TypeError
		({})(); => threw TypeError
		Symbol()(); => threw TypeError
		({}).a(); => threw TypeError
		null.a(); => threw TypeError
		null(a); => threw ReferenceError
		({}).a(a); => threw ReferenceError
		null.a(a); => threw TypeError
		({})[{}](a); => threw TypeError
		a(null.a); => threw ReferenceError
		let f = 1; f((f = function () { return 2; })); => threw TypeError
		let f = function () { return 1; }; f((f = 2)); => 1
		let o = {f: function () { return 1; }}; o.f((o.f = 2)); => 1
		let o = {f: function () { return [this.a, this === o]; }, a: 1}; let p = o; p.f((o = 2)); => [1 false]
		Proxy({}, {}); => threw TypeError
		let o = {f: function (a) { return a + this.b; }, b: 2}; o.f(1); => 3
		let o = {f: {g: function () { return this === o.f; }}}; o.f.g(); => true
		let o = {a: {f: function () { return this.x; }, x: 1}, b: {f: function () { return this.x; }, x: 2}}; o.a.f() * 10 + o.b.f(); => 12
		let l = [function () { return this === l; }]; l[0](); => true
		(function () { return function () { return 3; }; })()(); => 3
		(function () { return {f: function () { return 4; }}; })().f(); => 4
		let f = function () { return this; }; (f.bind)(1)(); => 1
		let f = function () { return this; }; (0 || f.bind)(1)(); => threw TypeError
		let o = {get f() { let t = this; return function () { return this === t; }; }}; o.f(); => true
		let p = new Proxy(function () { }, {apply: function (f, t, l) { return [t, l]; }}); p(1, 2); => [undefined [1 2]]
		let p = new Proxy({}, {get: function (t, k) { return function (a) { return k + a; }; }}); p.abc("d"); => "abcd"
		Reflect.apply(function () { return this; }, 8, []); => 8`)
}

func TestConstruction(t *testing.T) {
	gives(t, "P2003", `
		new null(); => threw TypeError
		new (5)(); => threw TypeError
		new print(); => threw TypeError
		new ({})(); => threw TypeError
		new a(null.a); => threw ReferenceError
		new null(a); => threw ReferenceError
		new Object(); => threw TypeError
		new Symbol(); => threw TypeError
		function f(a, b) { this.a = a; this.b = b; } let o = new f(1, 2); [o.a, o.b]; => [1 2]
		function f(a, b) { this.a = a; this.b = b; } let o = new f(1); [o.a, o.b]; => [1 undefined]
		function f() { } typeof new f(); => "object"
		function f() { return 5; } typeof new f(); => "object"
		let o = {}; function f() { return o; } new f() === o; => true
		function f() { } f.prototype.a = 1; new f().a; => 1
		function f() { } f.prototype = {a: 2}; new f().a; => 2
		function f() { } f.prototype = 2; Reflect.getPrototypeOf(new f()); => null
		function f() { } Reflect.getPrototypeOf(new f()) === f.prototype; => true
		function f() { throw 1; } new f(); => threw 1
		let o = {f: function () { this.t = this; }}; let p = new o.f(); p.t === p; => true
		let g = (function () { }).bind(1); typeof new g(); => "object"
		let f = function g(a) { if (a) return new g(a - 1); this.a = 7; }; new f(3).a; => 7
		let p = new Proxy(function () { }, {construct: function (f, l, n) { return [l, n === p]; }}); new p(1, 2); => [[1 2] true]
		let p = new Proxy(function () { }, {construct: function (f, l, n) { return 1; }}); new p(); => threw TypeError
		typeof new Proxy({}, {}); => "object"
		let i = 0; new (function (a, b) { this.l = [a, b]; })((i = i + 1), (i = i + 1)).l; => [1 2]
		let f = function (a) { this.a = a; }; let g = f; new f((f = 1)).a; => 1`)
}

func TestUnaryOperators(t *testing.T) {
	gives(t, "P2003", `
		!0; => true
		!1; => false
		!""; => true
		!null; => true
		!{}; => false
		!!"a"; => true
		-5; => -5
		- -5; => 5
		-"5"; => -5
		-true; => -1
		-null; => 0
		-0; => 0
		-"a"; => threw TypeError
		-undefined; => threw TypeError
		-{}; => threw TypeError
		-Symbol(); => threw TypeError
		-a; => threw ReferenceError
		!a; => threw ReferenceError
		typeof a; => "undefined"
		typeof (a); => "undefined"
		typeof a.b; => threw ReferenceError
		typeof -a; => threw ReferenceError
		typeof typeof a; => "string"
		let a; typeof a; => "undefined"
		typeof a; let a; => threw ReferenceError
		(function () { return typeof a; let a; })(); => threw ReferenceError
		{ typeof a; } let a; => threw ReferenceError
		{ let a; } typeof a; => "undefined"
		typeof 1; => "number"
		typeof "a"; => "string"
		typeof true; => "boolean"
		typeof null; => "object"
		typeof undefined; => "undefined"
		typeof Symbol(); => "symbol"
		typeof {}; => "object"
		typeof []; => "object"
		typeof function () { }; => "function"
		typeof new Proxy({}, {}); => "object"
		typeof new Proxy(print, {}); => "function"
		typeof print.bind(); => "function"
		typeof null.a; => threw TypeError`)
}

func TestDelete(t *testing.T) {
	gives(t, "P2003", `
		let o = {a: 1}; delete o.a; => true
		let o = {a: 1}; delete o.a; o.a; => undefined
		let o = {a: 1}; delete o["a"]; Object.keys(o); => []
		delete ({}).a; => true
		delete null.a; => threw TypeError
		delete (1).a; => threw TypeError
		delete null[a]; => threw ReferenceError
		delete ({})[{}]; => threw TypeError
		delete a.b; => threw ReferenceError
		delete Object.freeze({a: 1}).a; => threw TypeError
		delete Object.freeze({a: 1}).b; => true
		delete [].length; => threw TypeError
		delete (function () { }).prototype; => threw TypeError
		let o = new Proxy({}, {deleteProperty: function () { return false; }}); delete o.a; => threw TypeError
		let o = new Proxy({}, {deleteProperty: function (t, k) { throw k; }}); delete o[1]; => threw "1"
		let o = new Proxy({}, {deleteProperty: function () { return 1; }}); delete o.a; => true
		let o = Object.create({a: 1}); delete o.a; o.a; => 1`)
}

func TestBinaryOperators(t *testing.T) {
	gives(t, "P2003", `
		1 + 2; => 3
		1 - 2; => -1
		3 * 4; => 12
		7 / 2; => 3
		-7 % 2; => -1
		"a" + 1; => "a1"
		null + "a"; => "nulla"
		1 < 2; => true
		"b" < "a"; => false
		1 <= 1; => true
		1 > 2; => false
		2 >= 2; => true
		1 === 1; => true
		1 !== 1; => false
		1 === "1"; => false
		({}) === {}; => false
		let o = {}; o === o; => true
		1 / 0; => threw RangeError
		1 % 0; => threw RangeError
		9007199254740991 + 1; => threw RangeError
		1 + {}; => threw TypeError
		"a" + {}; => threw TypeError
		"a" * 2; => threw TypeError
		1 < "a"; => threw TypeError
		Symbol() + "a"; => threw TypeError
		null.a + b; => threw TypeError
		b + null.a; => threw ReferenceError
		let i = 1; (i = i + 1) - (i = i * 5); => -8
		2 + 3 * 4 - 5; => 9
		"a" in {a: 1}; => true
		"a" in {}; => false
		"a" in Object.create({a: 1}); => true
		1 in [5, 6]; => true
		2 in [5, 6]; => false
		null in {null: 1}; => true
		let s = Symbol(); s in {[s]: 1}; => true
		"length" in []; => true
		"a" in null; => threw TypeError
		"a" in "a"; => threw TypeError
		({}) in null; => threw TypeError
		({}) in {}; => threw TypeError
		print in {}; => threw TypeError
		a in null; => threw ReferenceError
		"a" in a; => threw ReferenceError
		"a" in new Proxy({}, {has: function (t, k) { return k; }}); => true
		"" in new Proxy({}, {has: function (t, k) { return k; }}); => false
		"a" in new Proxy({}, {has: function (t, k) { throw k; }}); => threw "a"`)
}

func TestShortcuts(t *testing.T) {
	gives(t, "P2003", `
		1 && 2; => 2
		0 && 2; => 0
		"" && a; => ""
		1 && a; => threw ReferenceError
		null && null.a; => null
		1 || 2; => 1
		0 || 2; => 2
		1 || a; => 1
		0 || a; => threw ReferenceError
		0 || ""; => ""
		1 && 2 && 3; => 3
		1 && 0 && a; => 0
		0 || null || 3; => 3
		0 || 1 && 2; => 2
		null.a && 1; => threw TypeError
		null.a || 1; => threw TypeError
		1 ? 2 : a; => 2
		0 ? a : 3; => 3
		1 ? a : 3; => threw ReferenceError
		0 ? 2 : a; => threw ReferenceError
		null.a ? 1 : 2; => threw TypeError
		0 ? 1 : 0 ? 2 : 3; => 3
		{} ; => undefined
		let i = 0; (i = i + 1) && (i = i + 1); i; => 2
		let i = 0; (i = i + 1) || (i = i + 1); i; => 1
		let i = 0; true ? (i = i + 1) : (i = i + 2); i; => 1
		let i = 0; false ? (i = i + 1) : (i = i + 2); i; => 2
		!1 || -2 + 3 === 1; => true`)
}

// TestStringsThatAreTooLong can't be made.
func TestStringsThatAreTooLong(t *testing.T) {
	half := strings.Repeat("a", api.MaxUnits/2)
	gives(t, "P2003", with("let a = '^'; (a + a) === a + a; => true\n let a = '^'; a + a + 'a'; => threw RangeError", half))
}
