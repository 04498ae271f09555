package early

import (
	"strings"
	"testing"

	"understudy/api"
)

func TestExample(t *testing.T) { checked(t, "return;", api.ErrSyntax) }

func TestReturns(t *testing.T) {
	refused(t, `
		return a;
		{ return; }
		if (a) return;
		if (a) ; else return;
		while (a) return;
		while (a) { return; }
		try { return; } catch (e) { }
		try { } catch (e) { return; }
		try { } finally { return; }
		function f() { } return;
		function f() { return; } return;
		return; function f() { }
		(function () { return; }); return;
	`)
	accepted(t, `
		function f() { return; }
		function f() { return a; return; }
		(function () { return; });
		(function f() { return a; });
		({get a() { return a; }});
		({set a(v) { return; }});
		function f() { if (a) return; else return; }
		function f() { while (a) return; }
		function f() { while (a) { return; } }
		function f() { try { return; } catch (e) { return; } finally { return; } }
		function f() { function g() { } return; }
		function f() { return function () { return; }; }`)
}

func TestBreaksAndContinues(t *testing.T) {
	wrong := `
		^
		{ ^ }
		if (a) ^
		if (a) ; else ^
		try { ^ } finally { }
		while (a) ; ^
		while (a) { } ^
		^ while (a) ;
		while (a) break; ^
		function f() { ^ }
		function f() { while (a) ; ^ }
		while (a) { function f() { ^ } }
		while (a) { (function () { ^ }); }
		while (a) { ({get a() { ^ }}); }
		while (a) { ({set a(v) { ^ }}); }
		while (a) { (function () { while (b) ; ^ }); }
		while (function () { ^ }) ;
		while (function () { ^ }) { break; }
		while (function () { while (function () { ^ }) ; }) ;
		while (a) while (function () { ^ }) ;
		while (a) { if (function () { ^ }) ; }
		while (a) { (function () { ^ }); break; }`
	right := `
		while (a) ^
		while (a) { ^ }
		while (a) { ^ ^ }
		while (a) if (b) ^
		while (a) if (b) ; else ^
		while (a) { { { ^ } } }
		while (a) try { ^ } catch (e) { ^ } finally { ^ }
		while (a) { while (b) ; ^ }
		while (a) { while (b) { } ^ }
		while (a) while (b) ^
		while (a) { (function () { }); ^ }
		while (a) { function f() { } ^ }
		while (function () { while (a) ^ }) ;
		while (function () { }) ^
		function f() { while (a) ^ }
		function f() { while (a) { ^ } }
		(function () { while (a) ^ });
		({get a() { while (b) ^ }});
		while (a) { (function () { while (b) ^ }); }
		while (a) { (function () { while (b) ^ }); ^ }`
	for _, s := range []string{"break;", "continue;"} {
		refused(t, strings.ReplaceAll(wrong, "^", s))
		accepted(t, strings.ReplaceAll(right, "^", s))
	}
}

// declarations are the forms of those of the name.
func declarations(name string) []string {
	return []string{"let " + name + ";", "let " + name + " = 1;", "const " + name + " = 1;", "function " + name + "() { }", "function " + name + "(a, b) { ; }"}
}

// lists have at their marks a list of statements that is the only one there.
func lists() []string {
	return []string{
		"^", "{ ^ }", "{ { ^ } }", "{ ; ^ ; }", "if (a) { ^ }", "if (a) ; else { ^ }", "while (a) { ^ }",
		"try { ^ } catch (e) { }", "try { ^ } finally { }", "try { } catch (e) { ^ }", "try { } finally { ^ }", "try { } catch (e) { } finally { ^ }",
		"function f() { ^ }", "function f(a, b) { ^ }", "(function () { ^ });", "(function f(a) { ^ });", "({get a() { ^ }});", "({set a(v) { ^ }});",
		"function f() { { ^ } }", "let l = function () { ^ };", "function f() { return function () { ^ }; }",
	}
}

func TestNamesDeclaredTwice(t *testing.T) {
	for _, list := range lists() {
		for _, a := range declarations("x") {
			for _, b := range declarations("x") {
				checked(t, filled(list, a+" "+b), api.ErrSyntax)
				checked(t, filled(list, a+" a; let y; "+b+" let z;"), api.ErrSyntax)
				checked(t, filled(list, a+" { "+b+" }"), api.OK)
				checked(t, filled(list, "{ "+a+" } { "+b+" } "), api.OK)
				checked(t, filled(list, a+" (function () { "+b+" });"), api.OK)
				checked(t, filled(list, a+" function y() { "+b+" }"), api.OK)
				checked(t, filled(list, a+" try { "+b+" } catch (x) { "+b+" } finally { "+b+" }"), api.OK)
			}
			for _, b := range declarations("y") {
				checked(t, filled(list, a+" "+b), api.OK)
			}
			checked(t, filled(list, a), api.OK)
		}
	}
}

func TestNamesThatDiffer(t *testing.T) {
	accepted(t, `
		let a; let A;
		let a; let a1; let a_; let a$; let _a;
		let get; let set; let of;
		let constructor; let toString; let __proto__;
		function f(a, A, b, B) { let c; let C; }`)
	refused(t, `
		let __proto__; let __proto__;
		let $; const $ = 1;
		let get; function get() { }
		let a; let b; let c; let b;
		let a; let b; let c; function a() { }`)
	long := strings.Repeat("a", api.MaxUnits)
	checked(t, "let "+long+"a; let "+long+"b;", api.OK)
	checked(t, "let "+long+"; let "+long+"a;", api.OK)
	checked(t, "let "+long+"a; let "+long+"a;", api.ErrSyntax)
}

func TestParameters(t *testing.T) {
	for _, f := range []string{"function f^", "{ function f^ }", "(function ^);", "(function f^);", "let l = [(function ^)];", "({a: function ^});", "function g() { function f^ }"} {
		function := func(parts string, want api.Errno) {
			t.Helper()
			checked(t, filled(f, parts), want)
		}
		for _, s := range []string{"(x, x) { }", "(x, y, x) { }", "(y, x, x) { }", "(x, x, x) { }", "(x, y, y, z) { x; }"} {
			function(s, api.ErrSyntax)
		}
		for _, s := range []string{"() { }", "(x) { }", "(x, y) { }", "(x, y, X) { x; y; }", "(f) { }", "(x, f, g) { }"} {
			function(s, api.OK)
		}
		for _, d := range declarations("x") {
			function("(x) { "+d+" }", api.ErrSyntax)
			function("(x) { ; "+d+" }", api.ErrSyntax)
			function("(y, x) { "+d+" }", api.ErrSyntax)
			function("(x, y) { let z; "+d+" }", api.ErrSyntax)
			function("(y, z) { "+d+" }", api.OK)
			function("(x) { { "+d+" } }", api.OK)
			function("(x) { while (a) { "+d+" } }", api.OK)
			function("(x) { try { "+d+" } catch (x) { "+d+" } finally { "+d+" } }", api.OK)
			function("(x) { (function () { "+d+" }); }", api.OK)
			function("(x) { function y() { "+d+" } }", api.OK)
		}
		function("(x) { (function (x) { }); function y(x) { } ({set x(x) { }}); }", api.OK)
		function("(x) { try { } catch (x) { } }", api.OK)
	}
}

func TestSetters(t *testing.T) {
	for _, d := range declarations("v") {
		checked(t, "({set a(v) { "+d+" }});", api.ErrSyntax)
		checked(t, "({a: 1, get a() { }, set a(v) { ; "+d+" }});", api.ErrSyntax)
		checked(t, "({set v(w) { "+d+" }});", api.OK)
		checked(t, "({get v() { "+d+" }});", api.OK)
		checked(t, "({set a(v) { { "+d+" } }});", api.OK)
		checked(t, "({set a(v) { }, get a() { "+d+" }});", api.OK)
		checked(t, d+" ({set a(v) { }});", api.OK)
	}
}

// The name of a function belongs to what is around it, and only if the function
// is a statement.
func TestNamesOfFunctions(t *testing.T) {
	accepted(t, `
		function f(f) { }
		function f() { let f; }
		function f() { function f() { } }
		function f() { const f = function f(f) { }; }
		(function f(f) { });
		(function f() { let f; });
		(function f() { function f() { } });
		let f; (function f() { });
		(function f() { }); let f; (function f() { });
		(function f() { }); (function f() { });
		let f = function f() { let f; };
		function f(a) { return function f() { }; }`)
	refused(t, `
		function f() { } function f() { }
		function f() { } let f;
		let f = function f() { }; function f() { }
		function g(f) { function f() { } }
		(function g(f) { function f() { } });
		(function f() { let f; function f() { } });`)
}

// What a catch catches is not declared by a statement.
func TestNamesOfCatches(t *testing.T) {
	accepted(t, `
		try { } catch (e) { let e; }
		try { } catch (e) { const e = 1; }
		try { } catch (e) { function e() { } }
		let e; try { } catch (e) { }
		try { let e; } catch (e) { } finally { let e; }
		function f(e) { try { } catch (e) { let e; } }
		try { } catch (e) { try { } catch (e) { } }`)
	refused(t, `
		try { } catch (e) { let e; let e; }
		try { } catch (a) { let e; function e() { } }`)
}

// Only statements declare, and only what they are named by.
func TestUsesAreNoDeclarations(t *testing.T) {
	accepted(t, `
		let a; a; a = 1; a.a = a[a]; a(a);
		let a = a;
		const a = {a: a, a: a, [a]: a, get a() { }, get a() { }, set a(a) { }};
		a; a; { a; } let a;
		function f(a) { a; a = a; return a; }
		"a"; "a"; let a; "a";
		({a: 1, a: 2}); let a;`)
}

func TestDeclarationsThatAreBranches(t *testing.T) {
	for _, d := range declarations("x") {
		refused(t, strings.ReplaceAll(`
			if (a) ^
			if (a) ^ else ;
			if (a) ; else ^
			if (a) { } else if (b) ^
			if (a) { } else if (b) ; else ^
			if (a) if (b) ^
			if (a) if (b) ^ else ;
			while (a) ^
			while (a) while (b) ^
			while (a) if (b) ^
			if (a) while (b) ^
			if (a) ; else while (b) ^
			{ if (a) ^ }
			function f() { if (a) ^ }
			(function () { while (a) ^ });
			try { if (a) ^ } finally { }
			while (function () { if (a) ^ }) ;
			if (function () { while (a) ^ }) ;`, "^", d))
		accepted(t, strings.ReplaceAll(`
			^
			{ ^ }
			if (a) { ^ }
			if (a) { ^ } else { ^ }
			if (a) { } else { ^ }
			while (a) { ^ }
			if (a) ; ^
			if (a) ; else ; ^
			while (a) ; ^
			if (a) try { ^ } catch (e) { ^ } finally { ^ }
			while (a) try { ^ } finally { ^ }
			if (a) throw function () { ^ };
			if (a) (function () { ^ });
			while (a) ({get b() { ^ }});
			if (function () { ^ }) ;
			while (function () { ^ }) ;
			if (a) while (function () { ^ }) ;
			while (a) if (function () { ^ }) ; else ;`, "^", d))
	}
}

func TestProgramsWithoutErrors(t *testing.T) {
	accepted(t, `
		;
		a;
		// nothing
		throw a;
		let t = {a: 1, b: 2}; let h = {}; let p = new Proxy(t, h); try { print(p.a); } catch (e) { print(e.name); }`)
	if got := Check(of(api.SProgram)); got != api.OK {
		t.Errorf("P1501: Check of the empty program = %d", got)
	}
	if got := Check(api.Node{Kind: api.SProgram, Names: []string{}, Kids: []api.Node{}}); got != api.OK {
		t.Errorf("P1501: Check of the empty program with empty lists = %d", got)
	}
}

// An error is one wherever it stands among statements without.
func TestErrorsAmongOthers(t *testing.T) {
	const fine = "let q = 1; { let q; } while (q) { break; } function r(q) { return q; } "
	for _, s := range []string{"return;", "break;", "continue;", "let s; let s;", "function s(u, u) { }", "if (q) let s;"} {
		checked(t, s+fine, api.ErrSyntax)
		checked(t, fine+s, api.ErrSyntax)
		checked(t, "{ "+fine+"} "+s+"{ "+fine+"}", api.ErrSyntax)
		checked(t, fine+s+s, api.ErrSyntax)
	}
	checked(t, fine, api.OK)
}
