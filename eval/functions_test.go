package eval

import (
	"fmt"
	"slices"
	"strings"
	"testing"

	"understudy/api"
)

// isFunction checks the function v and its prototype, which is the object
// behind it.
func (m machine) isFunction(promise string, v api.Value, n, env int) {
	m.t.Helper()
	proto := api.Entry{Key: name("prototype"), Desc: api.Desc{HasValue: true, HasWritable: true, HasEnumerable: true, HasConfigurable: true, Value: obj(v.Num + 1), Writable: true}}
	want := api.Thing{Kind: api.Function, Proto: obj(1), Extensible: true, Code: api.CWritten, N: n, Env: env, Props: []api.Entry{proto}}
	if x := m.thing(v); !equal(x, want) {
		m.t.Errorf("%s: the function %d is\n%+v, want\n%+v", promise, v.Num, x, want)
	}
	if x := m.thing(obj(v.Num + 1)); !equal(x, api.Thing{Kind: api.Plain, Proto: obj(0), Extensible: true}) {
		m.t.Errorf("%s: the prototype of the function %d is %+v", promise, v.Num, x)
	}
}

// has checks the functions of the world that programs have written: each one's
// number, and its scope.
func (m machine) has(promise, want string) {
	m.t.Helper()
	var l []string
	for o, x := range m.objects() {
		if x.Code == api.CWritten {
			l = append(l, fmt.Sprintf("%d in %d", x.N, x.Env))
			m.isFunction(promise, obj(o), x.N, x.Env)
		}
	}
	if got := strings.Join(l, ", "); got != want {
		m.t.Errorf("%s: there are the functions %s, want %s", promise, got, want)
	}
}

// creates checks the functions that programs create.
func creates(t *testing.T, promise, text string) {
	t.Helper()
	for _, row := range rows(text, "=>") {
		m := fresh(t)
		m.run(row[0])
		m.has(promise+": "+row[0], row[1])
	}
}

// TestFunctionsThatAreCreated have a number by where they begin, and the scope
// in which they are created.
func TestFunctionsThatAreCreated(t *testing.T) {
	creates(t, "P2003", `
		1; =>
		function f() { } => 0 in 1
		(function () { }); => 0 in 1
		(function f() { }); => 0 in 2
		({get a() { }}); => 0 in 1
		({set a(v) { }}); => 0 in 1
		({get a() { }, b: function () { }, set a(v) { }}); => 0 in 1, 1 in 1, 2 in 1
		function f() { } function g() { } => 0 in 1, 1 in 1
		(function () { }); function f() { } => 1 in 1, 0 in 1
		{ function f() { } } function g() { } => 1 in 1, 0 in 2
		{ { function f() { } } } { function g() { } } => 0 in 3, 1 in 4
		(function () { function f() { } })(); function g() { } => 2 in 1, 0 in 1, 1 in 2
		(function f() { function g() { } })(); => 0 in 2, 1 in 3
		(function () { (function f() { }); (function () { }); })(); => 0 in 1, 1 in 3, 2 in 2
		(function () { (function () { }); }); (function () { }); => 0 in 1, 2 in 1
		(function () { })((function () { }), function () { }); => 0 in 1, 1 in 1, 2 in 1
		[function () { }, function () { }]; => 0 in 1, 1 in 1
		(function () { }) + function () { }; => 0 in 1, 1 in 1
		({[function () { }]: function () { }}); => 0 in 1
		({}).a[function () { }] = function () { }; => 0 in 1
		0 ? function () { } : function () { }; => 1 in 1
		0 && function () { }; (function () { }); => 1 in 1
		if (function () { }) (function () { }); else (function () { }); => 0 in 1, 1 in 1
		if (0) (function () { }); else (function () { }); => 1 in 1
		while (function () { }) { (function () { }); break; } => 0 in 1, 1 in 2
		let i = 2; while (i) { i = i - 1; (function () { }); } => 0 in 2, 0 in 3
		let i = 2; while (i) { i = i - 1; function f() { } } => 0 in 2, 0 in 3
		let i = 2; while (i) { i = i - 1; (function f() { }); } => 0 in 3, 0 in 5
		let i = 2; while (i) i = i - 1; { function f() { } } => 0 in 2
		try { function f() { } } finally { function g() { } } => 0 in 2, 1 in 3
		try { function f() { } } catch (e) { function g() { } } finally { function h() { } } => 0 in 2, 2 in 3
		try { throw 1; function f() { } } catch (e) { function g() { } } finally { function h() { } } => 0 in 2, 1 in 4, 2 in 5
		try { throw 1; } catch (e) { (function f() { }); } finally { (function h() { }); } => 0 in 5, 1 in 7
		function f(n) { if (n) f(n - 1); } f(2); (function g() { }); => 0 in 1, 1 in 5
		function f() { return function () { }; } f(); f(); => 0 in 1, 1 in 2, 1 in 3
		function f() { } new f(); { (function () { }); } => 0 in 1, 1 in 3
		function f() { { } } f(); { (function () { }); } => 0 in 1, 1 in 4
		(function () { })(); (function () { }).call(); { (function () { }); } => 0 in 1, 1 in 1, 2 in 4
		({get a() { }}).a; { (function () { }); } => 0 in 1, 1 in 3
		print(); Symbol(); { (function () { }); } => 0 in 2
		throw 1; function f() { } => 0 in 1
		return; function f() { } =>`)
}

// TestNumbersContinue in further runs.
func TestNumbersContinue(t *testing.T) {
	m := fresh(t)
	m.run("function f() { (function () { }); }")
	m.run("function f() { return 7; } throw 1;")
	m.run("1;")
	m.run("return; function f() { }")
	m.Run(api.Node{Kind: api.SProgram, Kids: []api.Node{{Kind: api.SFunc, Kids: []api.Node{{Kind: api.NFunc}}}}})
	m.run("(function g() { });")
	m.has("P2003", "0 in 1, 2 in 2, 3 in 5")
	f := m.thing(obj(built))
	for n, want := range []api.Value{undefined, undefined, number(7), undefined} {
		f.N = n
		if r := m.Call(m.World(), f, undefined, nil); show(r) != show(api.Reply{Value: want}) {
			t.Errorf("P2003: the function %d returns %+v, want %+v", n, r, want)
		}
	}
}

// TestNamesOfFunctions are constants in a scope around a function that is an
// expression.
func TestNamesOfFunctions(t *testing.T) {
	gives(t, "P2003", `
		(function f() { return typeof f; })(); => "function"
		let g = (function f() { return f; }); g() === g; => true
		(function f() { }); typeof f; => "undefined"
		(function f() { f = 1; })(); => threw TypeError
		(function f(f) { return f; })(5); => 5
		(function f() { let f = 5; return f; })(); => 5
		(function f() { f = 1; let f = 5; })(); => threw ReferenceError
		(function f() { function f() { return 5; } return f(); })(); => 5
		let f = 1; (function f() { return typeof f; })(); => "function"
		let f = 1; (function f() { }); f; => 1
		(function f(n) { return n ? n * f(n - 1) : 1; })(5); => 120
		function f() { return typeof f; } f(); => "function"
		function f() { f = 5; } f(); f; => 5
		let g = f; function f() { return f; } f = 5; g(); => 5
		({get a() { return typeof a; }}).a; => "undefined"
		function f() { return g(); } function g() { return 6; } f(); => 6`)
}

// TestPrototypes of functions.
func TestPrototypesOfFunctions(t *testing.T) {
	gives(t, "P2003", `
		function f() { } typeof f.prototype; => "object"
		function f() { } Object.keys(f); => []
		function f() { } Object.keys(f.prototype); => []
		function f() { } Reflect.ownKeys(f); => ["prototype"]
		function f() { } f.prototype = 1; f.prototype; => 1
		function f() { } delete f.prototype; => threw TypeError
		let o = {get a() { }}; typeof Reflect.getOwnPropertyDescriptor(o, "a").get.prototype; => "object"
		function f() { } f.prototype === f.prototype; => true
		function f() { } function g() { } f.prototype === g.prototype; => false
		function f() { return function () { }; } f() === f(); => false
		Reflect.getPrototypeOf(function () { }) === Reflect.getPrototypeOf(print); => true
		(function () { }).a = 5; => 5
		let f = Object.freeze(function () { return 1; }); f(); => 1`)
}

func TestParametersAndReturns(t *testing.T) {
	gives(t, "P2004", `
		(function (a, b) { return a - b; })(5, 3); => 2
		(function (a, b) { return [a, b]; })(); => [undefined undefined]
		(function (a, b) { return [a, b]; })(1); => [1 undefined]
		(function (a, b) { return [a, b]; })(1, 2, 3); => [1 2]
		(function (a) { a = a + 1; return a; })(1); => 2
		let a = 1; (function (a) { a = 5; })(2); a; => 1
		(function (a) { { let a = 7; } return a; })(1); => 1
		(function (a) { return b(); function b() { return a; } })(4); => 4
		(function () { return; })(); => undefined
		(function () { 5; })(); => undefined
		(function () { { { return 1; } } })(); => 1
		(function () { return 1; return 2; })(); => 1
		(function () { return [null.a]; })(); => threw TypeError
		(function () { return (function () { return 1; })() + 1; })(); => 2
		(function () { if (1) return 1; else return 2; })(); => 1
		(function () { let i = 0; while (true) { i = i + 1; if (i > 3) return i; } })(); => 4
		(function (a) { return typeof a; let b; })(); => "undefined"
		(function (print) { return print; })(3); => 3
		(function (a) { return this; }).call(1, 2); => 1
		(function (a, b) { return [a, b]; }).bind(0, 1)(2); => [1 2]
		Reflect.apply(function (a, b) { return [this, a, b]; }, 0, [1, 2]); => [0 1 2]
		[1, (function () { return 2; })(), 3]; => [1 2 3]
		let a = [1, (function () { try { null.a; } catch (e) { return 2; } })(), 3]; a; => [1 2 3]
		(function () { try { return [1, null.a]; } catch (e) { return e; } })(); => TypeError
		1 + (function (a) { try { return [1, 2, a.b]; } catch (e) { return 4; } })() * 2; => 9`)
}

// TestCalledFromOutside: functions can be called by the world, between runs.
func TestCalledFromOutside(t *testing.T) {
	m := fresh(t)
	f := m.done("let n = 0; (function (a) { n = n + 1; return [n, a, this]; });")
	for i := range 3 {
		r := m.World().Do(api.MCall, f.Num, api.Ask{Receiver: number(7), List: []api.Value{str("a"), no}})
		if got, want := m.tell(r), fmt.Sprintf(`[%d "a" 7]`, i+1); got != want {
			t.Errorf("P2004: the call returns %s, want %s", got, want)
		}
		if i == 0 {
			m.done("n2();function n2() { }")
		}
	}
	r := m.World().Do(api.MConstruct, f.Num, api.Ask{Receiver: f})
	if got := m.tell(r); got != "[4 undefined object]" {
		t.Errorf("P2004: the constructor returns %s", got)
	}
}

// TestEarlierFunctions can be called by a later program, in their own scopes.
func TestEarlierFunctions(t *testing.T) {
	m := fresh(t)
	m.done("let n = 5; Object.f = function () { n = n + 1; return n; }; Object.g = function (a) { return function () { return a; }; };")
	for i, row := range rows("let n = 1; Object.f() + n; => 7\nObject.f(); => 7\nObject.g(3)(); => 3\nn; => threw ReferenceError", "=>") {
		if got := m.tell(m.run(row[0])); got != row[1] {
			t.Errorf("P2001: run %d gives %s, want %s", i, got, row[1])
		}
	}
}

// TestClosures: a function sees the variables of where it was created.
func TestClosures(t *testing.T) {
	gives(t, "P2004", `
		let a = 1; function f() { return a; } a = 2; f(); => 2
		let a = 1; function f() { a = 2; } f(); a; => 2
		function f() { let n = 0; return function () { n = n + 1; return n; }; } let g = f(); let h = f(); g(); g(); [g(), h()]; => [3 1]
		function f(a) { return function (b) { return function (c) { return a * 100 + b * 10 + c; }; }; } f(1)(2)(3); => 123
		let f; { let a = 1; f = function () { return a; }; } { let a = 2; f(); } => 1
		let f; try { throw 5; } catch (e) { f = function () { return e; }; } f(); => 5
		let o = (function () { let n = 1; return {get a() { return n; }, set a(v) { n = v; }}; })(); o.a = 9; o.a; => 9
		function f(n) { return n < 2 ? n : f(n - 1) + f(n - 2); } f(12); => 144
		function even(n) { return n === 0 ? true : odd(n - 1); } function odd(n) { return n === 0 ? false : even(n - 1); } even(51); => false`)
}

// TestCallsOfTheCaller directly.
func TestCallsOfTheCaller(t *testing.T) {
	m := fresh(t)
	f := m.thing(m.done("(function (a, b) { this; return [this, a, b]; });"))
	thrower := m.thing(m.done("(function () { throw 1; });"))
	for _, x := range []struct {
		f    api.Thing
		this api.Value
		args []api.Value
		want string
	}{
		{f, undefined, nil, "[undefined undefined undefined]"},
		{f, number(1), []api.Value{yes, str("a"), no}, `[1 true "a"]`},
		{api.Thing{Code: api.CWritten, N: f.N, Env: f.Env}, null, []api.Value{null}, "[null null undefined]"},
		{thrower, undefined, nil, "threw 1"},
		{api.Thing{Code: api.CIsArray}, undefined, []api.Value{m.done("[];")}, "true"},
		{api.Thing{Code: api.CKeys}, undefined, []api.Value{m.done("({a: 1});")}, `["a"]`},
		{api.Thing{Code: api.CReflect + api.MIsExt}, undefined, []api.Value{obj(0)}, "true"},
		{api.Thing{Code: api.CConst}, undefined, nil, "threw TypeError"},
		{api.Thing{}, undefined, nil, "threw TypeError"},
		{api.Thing{Code: -1}, undefined, nil, "threw TypeError"},
	} {
		if got := m.tell(m.Call(m.World(), x.f, x.this, x.args)); got != x.want {
			t.Errorf("P2001: Call of %+v: %s, want %s", x.f, got, x.want)
		}
	}
}

// TestRepliesHaveNothingElse than the flow and a value.
func TestRepliesHaveNothingElse(t *testing.T) {
	for _, s := range []string{"let o = {}; o.a = 1;", "'a' in {a: 1};", "delete ({}).a;", "Object.isFrozen(1);", "Reflect.has({}, 'a');", "throw 1;", "null.a;", "Object.keys({a: 1});", "Reflect.getOwnPropertyDescriptor({a: 1}, 'a');"} {
		m := fresh(t)
		r := m.run(s)
		if show(r) != show(api.Reply{Flow: r.Flow, Value: r.Value}) || r.Flow != api.Done && r.Flow != api.Threw {
			t.Errorf("P2001: %s: %+v", s, r)
		}
	}
	m := fresh(t)
	for _, s := range []string{"(function () { return 1; });", "(function () { });", "(function () { return ({a: 1}); });", "(function () { throw 1; });"} {
		r := m.Call(m.World(), m.thing(m.done(s)), undefined, nil)
		if show(r) != show(api.Reply{Flow: r.Flow, Value: r.Value}) || !slices.Contains([]int{api.Done, api.Threw}, r.Flow) {
			t.Errorf("P2004: %s: %+v", s, r)
		}
	}
}
