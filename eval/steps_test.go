package eval

import "testing"

// TestStepsOfStatements: each takes one, and blocks of a try, of a catch and of
// a finally, and bodies of functions, take none.
func TestStepsOfStatements(t *testing.T) {
	costs(t, "P2002", `
		=> 0
		; => 1
		;;; => 3
		{ } => 1
		{ ; { ; } } => 4
		let a; => 1
		let a = 1; => 1 + 1
		const a = 1; => 1 + 1
		function f() { ; } => 1
		function f() { function g() { } } => 1
		1; => 1 + 1
		if (1) ; => 1 + 1 + 1
		if (0) ; => 1 + 1
		if (0) ; else ; => 1 + 1 + 1
		if (1) { ; } => 1 + 1 + 1 + 1
		if (0) { ; } else { ; ; } => 1 + 1 + 1 + 2
		while (0) ; => 1 + 1
		while (1) break; => 1 + 1 + 1
		while (1) { ; break; ; } => 1 + 1 + 1 + 2
		let a = 2; while (a) a = a - 1; => 2 + 1 + 1 + 5 + 1 + 5 + 1
		let a = 2; while (a) { a = a - 1; continue; } => 2 + 1 + 1 + 7 + 1 + 7 + 1
		throw 1; ; ; => 1 + 1
		try { } finally { } => 1
		try { ; } finally { ; } => 1 + 1 + 1
		try { throw 1; ; } catch (e) { ; } => 1 + 2 + 1
		try { throw 1; } catch (e) { ; } finally { ; ; } => 1 + 2 + 1 + 2
		try { ; } catch (e) { ; ; ; } finally { ; } => 1 + 1 + 1
		try { null.a; } catch (e) { } => 1 + 1 + 1 + 1
		(function () { })(); => 1 + 1 + 1 + 1
		(function () { ; return; ; })(); => 1 + 1 + 1 + 1 + 2
		(function () { return 1; })(); => 1 + 1 + 1 + 1 + 2
		(function (a, b) { })(1); => 1 + 1 + 1 + 1 + 1`)
}

// TestStepsOfExpressions: each takes one, references and the functions of
// getters and setters take none, and each method takes one.
func TestStepsOfExpressions(t *testing.T) {
	costs(t, "P2003", `
		1; => 1 + 1
		"a"; => 1 + 1
		this; => 1 + 1
		(((1))); => 1 + 1
		print; => 1 + 1
		a; => 1 + 1
		[]; => 1 + 1
		[1, 2, 3]; => 1 + 1 + 3
		({}); => 1 + 1
		({a: 1}); => 1 + 1 + 1 + 1 + 1
		({[1 + 1]: 1}); => 1 + 1 + 3 + 1 + 1
		({a: 1, b: 2}); => 1 + 1 + 3 + 3
		({get a() { ; }}); => 1 + 1 + 1
		({set a(v) { ; }, get a() { }}); => 1 + 1 + 1 + 1
		({[{}]: 1}); => 1 + 1 + 1
		(function () { ; }); => 1 + 1
		(function f() { ; }); => 1 + 1
		print.a; => 1 + 1 + 1 + 9
		null.a; => 1 + 1 + 1
		null[0]; => 1 + 1 + 1 + 1
		({})[{}]; => 1 + 1 + 1 + 1
		let o = {}; o.a; => 2 + 2 + 1 + 6
		let o = {}; o["a"]; => 2 + 2 + 1 + 1 + 6
		let o = {}; o.a = 1; => 2 + 2 + 1 + 1 + 6 + 2
		let o = {}; o["a"] = 1; => 2 + 2 + 1 + 1 + 1 + 6 + 2
		let a; a = 1; => 1 + 2 + 1
		a = 1; => 1 + 1 + 1
		print(); => 1 + 1 + 1 + 1
		print(1, 2); => 1 + 1 + 1 + 2 + 1
		null(); => 1 + 1 + 1
		null(1); => 1 + 1 + 1 + 1
		Object.keys(1); => 1 + 1 + 1 + 2 + 1 + 1
		Object["keys"](1); => 1 + 1 + 1 + 1 + 2 + 1 + 1
		new null(); => 1 + 1 + 1
		new null(1); => 1 + 1 + 1 + 1
		new Proxy(1); => 1 + 1 + 1 + 1 + 1
		new Object.keys(); => 1 + 1 + 1 + 1 + 2
		new (function () { })(); => 1 + 1 + 1 + 1 + 2
		!1; => 1 + 1 + 1
		-1; => 1 + 1 + 1
		- - -1; => 1 + 1 + 1 + 1 + 1
		typeof 1; => 1 + 1 + 1
		typeof print; => 1 + 1 + 1
		typeof a; => 1 + 1
		typeof a; let a; => 1 + 1 + 1
		delete ({}).a; => 1 + 1 + 1 + 2
		delete ({})["a"]; => 1 + 1 + 1 + 1 + 2
		delete null.a; => 1 + 1 + 1
		1 + 2; => 1 + 1 + 2
		1 + 2 * 3; => 1 + 1 + 1 + 3
		"a" in {}; => 1 + 1 + 2 + 6
		"a" in null; => 1 + 1 + 2
		1 && 2; => 1 + 1 + 2
		0 && 2; => 1 + 1 + 1
		1 || 2; => 1 + 1 + 1
		0 || 2; => 1 + 1 + 2
		1 ? 2 : 3; => 1 + 1 + 2
		0 ? 2 : 3; => 1 + 1 + 2`)
}

// TestMethodsThatArePerformed directly, in order.
func TestMethodsThatArePerformed(t *testing.T) {
	asks(t, "P2003", `
		=>
		; => 
		1 + 2; =>
		[1, 2]; =>
		(function f() { }); =>
		function f() { } =>
		({}); =>
		({a: 1}); => defineProperty of 32 a
		({a: {b: 1}, [7]: 2}); => defineProperty of 33 b, defineProperty of 32 a, defineProperty of 32 7
		({get a() { }, set b(v) { }}); => defineProperty of 32 a, defineProperty of 32 b
		let s = Symbol(); ({[s]: 1}); => call of 28, defineProperty of 32 symbol 1
		let o = {}; o.a; => get of 32 a on #32
		let o = {}; o[5]; => get of 32 5 on #32
		let o = {}; o.a = 3; => set of 32 a 3 on #32
		let o = {}; o[null] = o; => set of 32 null #32 on #32
		let o = {}; delete o.a; => deleteProperty of 32 a
		let o = {}; delete o[true]; => deleteProperty of 32 true
		let o = {}; "a" in o; => has of 32 a
		print(1, "a"); => call of 31 with 1 with "a"
		Symbol(); => call of 28
		Object.create(null); => get of 21 create on #21, call of 22 on #21 with null
		Object["create"](null, 1); => get of 21 create on #21, call of 22 on #21 with null with 1
		let f = function (a) { }; f(1); => call of 32 with 1
		let f = function (a) { }; new f(1); => construct of 32 on #32 with 1
		let f = function () { return ({a: 1}); }; f(); => call of 32
		new Proxy(print, Object); => construct of 5 on #5 with #31 with #21
		!print; =>
		typeof print; =>
		print === print; =>
		print && print; =>
		let o = {}; let a = o; a = 1; =>`)
}
