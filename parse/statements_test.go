package parse

import (
	"strings"
	"testing"

	"understudy/api"
)

func TestTheExample(t *testing.T) {
	parses(t, "P1301", "a;", expr(name("a")))
}

func TestProgramsOfAnyNumberOfStatements(t *testing.T) {
	parses(t, "P1301", "")
	parses(t, "P1301", " // nothing\n/* at all */ ")
	parses(t, "P1301", ";", of(api.SEmpty))
	parses(t, "P1301", "a;b;;c;", expr(name("a")), expr(name("b")), of(api.SEmpty), expr(name("c")))
	parses(t, "P1301", "{}{}a;{}", of(api.SBlock), of(api.SBlock), expr(name("a")), of(api.SBlock))
	many := make([]api.Node, api.MaxSource)
	for i := range many {
		many[i] = of(api.SEmpty)
	}
	parses(t, "P1301", strings.Repeat(";", api.MaxSource), many...)
}

func TestErrorsOfTheLexer(t *testing.T) {
	for _, s := range []string{
		"^#", "a; ^var x;", "let 'x^\\q';", "a^\xff", "/* */ ^/* ", "^01;", "a = ^'b", "1 = ^'b",
		// They come before all errors of the grammar.
		"a b c ^@", "} ) ^'a", "else ^1a", "1 = 2; delete a; try {} ^class", "let let ^\x00",
		strings.Repeat("{", 200) + "^&",
	} {
		refuses(t, "P1301", s, api.ErrSyntax)
	}
	for _, s := range []string{
		strings.Repeat(" ", api.MaxSource+1), strings.Repeat("{", api.MaxSource+1), strings.Repeat("#", api.MaxSource+1),
		strings.Repeat("a;", api.MaxSource),
	} {
		refuses(t, "P1301", "^"+s, api.ErrLong)
	}
	parses(t, "P1301", strings.Repeat(" ", api.MaxSource))
}

func TestDeclarations(t *testing.T) {
	a := name("a")
	parses(t, "P1302", "let x;", with(api.SLet, "x"))
	parses(t, "P1302", "let x = a;", with(api.SLet, "x", a))
	parses(t, "P1302", "let x = y = a;", with(api.SLet, "x", of(api.NAssign, name("y"), a)))
	parses(t, "P1302", "const x = a;", with(api.SConst, "x", a))
	parses(t, "P1302", "function f() {}", of(api.SFunc, function("f", "")))
	parses(t, "P1302", "function f(x) { a; }", of(api.SFunc, function("f", "x", expr(a))))
	parses(t, "P1302", "function get(x, y, x) { a; ; { } }", of(api.SFunc, function("get", "x y x", expr(a), of(api.SEmpty), of(api.SBlock))))
	parses(t, "P1302", "function f() { function g() {} }", of(api.SFunc, function("f", "", of(api.SFunc, function("g", "")))))
	// What follows a function declaration is a statement of its own.
	parses(t, "P1301", "function f() {} (a);", of(api.SFunc, function("f", "")), expr(a))
	wrong(t, `
		let ^= 1;
		let ^;
		let ^let;
		let ^undefined = 1;
		let ^1 = 1;
		let ^'x' = 1;
		let ^[x] = a;
		let ^(x) = a;
		let x ^a;
		let x ^, y;
		let x ^=== a;
		let x = ^;
		let x = a ^b;
		let x = a ^, y = b;
		let x ^.y = 1;
		const ^= 1;
		const x ^;
		const x ^a;
		const ^null = 1;
		const x = ^;
		const x = a ^}
		function ^() {}
		function ^if() {}
		function ^1() {}
		function f ^;
		function f ^{}
		function f( ^, ) {}
		function f( ^1) {}
		function f( ^'x') {}
		function f( ^this) {}
		function f( ^(x)) {}
		function f(x ^y) {}
		function f(x, ^) {}
		function f(x, ^,y) {}
		function f(x ^= 1) {}
		function f() ^a;
		function f() ^;
		function f() {} ^.a;
		function f() {} ( ^);
	`)
	unfinished(t, `
		let
		let x
		let x =
		let x = a
		const
		const x
		const x =
		const x = a
		function
		function f
		function f(
		function f(x
		function f(x,
		function f(x, y)
		function f() {
		function f() { a;
	`)
}

func TestBranchesAndLoops(t *testing.T) {
	a, b, c := name("a"), expr(name("b")), expr(name("c"))
	parses(t, "P1302", "if (a) b;", of(api.SIf, a, b))
	parses(t, "P1302", "if (a) b; else c;", of(api.SIf, a, b, c))
	parses(t, "P1302", "if (a) {} else {}", of(api.SIf, a, of(api.SBlock), of(api.SBlock)))
	parses(t, "P1302", "if (a = b) ; else ;", of(api.SIf, of(api.NAssign, a, name("b")), of(api.SEmpty), of(api.SEmpty)))
	parses(t, "P1302", "while (a) b;", of(api.SWhile, a, b))
	parses(t, "P1302", "while (a) { break; continue; }", of(api.SWhile, a, of(api.SBlock, of(api.SBreak), of(api.SContinue))))
	parses(t, "P1302", "while (a) while (a) ;", of(api.SWhile, a, of(api.SWhile, a, of(api.SEmpty))))
	// Statements that chapter 15 refuses are statements here.
	parses(t, "P1301", "if (a) let x; else function f() {}", of(api.SIf, a, with(api.SLet, "x"), of(api.SFunc, function("f", ""))))
	parses(t, "P1301", "while (a) const x = a;", of(api.SWhile, a, with(api.SConst, "x", a)))
	parses(t, "P1301", "break; continue; return; return a;", of(api.SBreak), of(api.SContinue), of(api.SReturn), of(api.SReturn, a))
	parses(t, "P1302", "throw a;", of(api.SThrow, a))
	parses(t, "P1301", "let x; let x; const x = a;", with(api.SLet, "x"), with(api.SLet, "x"), with(api.SConst, "x", a))
	wrong(t, `
		if ^a;
		if ( ^) b;
		if (a ^b) c;
		if (a ^, b) c;
		if (a) ^else c;
		if (a) ^}
		if (a) b ^else c;
		if (a) b; else ^else c;
		if (a) b; else c; ^else d;
		if (a) {}; ^else d;
		while ^a;
		while ( ^) ;
		while (a) ^)
		while (a) ; ^else ;
		while (a) b ^}
		return a ^b;
		return ^}
		return ^]
		throw ^;
		throw a ^, b;
		throw a ^}
		break ^a;
		break ^}
		continue ^a;
		continue ^1;
		^else ;
		^catch (a) {}
		^finally {}
		^in a;
		^)
		^]
		^}
		^:
		^,
		^.
		^=
		^?
		^+ a;
		^* a;
		^< a;
		^=== a;
		^&& a;
		a ^: b;
	`)
	unfinished(t, `
		if
		if (
		if (a
		if (a)
		if (a) b
		if (a) b; else
		if (a) b; else c
		while
		while (
		while (a
		while (a)
		while (a) b
		return
		return a
		throw
		throw a
		break
		continue
		{
		{ {
		{ ;
		{ a; { }
	`)
}

func TestElseBelongsToTheNearestIf(t *testing.T) {
	a, b := name("a"), name("b")
	c, d, e := expr(name("c")), expr(name("d")), expr(name("e"))
	parses(t, "P1301", "if (a) if (b) c; else d;", of(api.SIf, a, of(api.SIf, b, c, d)))
	parses(t, "P1301", "if (a) if (b) c; else d; else e;", of(api.SIf, a, of(api.SIf, b, c, d), e))
	parses(t, "P1301", "if (a) { if (b) c; } else d;", of(api.SIf, a, of(api.SBlock, of(api.SIf, b, c)), d))
	parses(t, "P1301", "if (a) c; else if (b) d; else e;", of(api.SIf, a, c, of(api.SIf, b, d, e)))
	parses(t, "P1301", "if (a) while (b) if (b) c; else d;", of(api.SIf, a, of(api.SWhile, b, of(api.SIf, b, c, d))))
	parses(t, "P1301", "if (a) if (b) if (a) c; else d; else e;", of(api.SIf, a, of(api.SIf, b, of(api.SIf, a, c, d), e)))
}

func TestTryAndItsParts(t *testing.T) {
	block := func(s ...api.Node) api.Node { return of(api.SBlock, s...) }
	attempt := func(num int, kids ...api.Node) api.Node {
		return api.Node{Kind: api.STry, Num: num, Kids: kids}
	}
	a, b, c := expr(name("a")), expr(name("b")), expr(name("c"))
	parses(t, "P1302", "try {} catch (e) {}", attempt(1, block(), with(api.SCatch, "e", block())))
	parses(t, "P1302", "try {} finally {}", attempt(2, block(), block()))
	parses(t, "P1302", "try { a; } catch (e) { b; } finally { c; ; }", attempt(3, block(a), with(api.SCatch, "e", block(b)), block(c, of(api.SEmpty))))
	parses(t, "P1302", "try { a; } finally { b; } c;", attempt(2, block(a), block(b)), c)
	parses(t, "P1302", "try { try {} finally {} } catch (e) { try {} catch (e) {} }",
		attempt(1, block(attempt(2, block(), block())), with(api.SCatch, "e", block(attempt(1, block(), with(api.SCatch, "e", block()))))))
	wrong(t, `
		try ^;
		try ^a;
		try ^catch (e) {}
		try ^(a) {}
		try {} ^;
		try {} ^a;
		try {} ^{}
		try {} ^}
		try {} ^else
		try {} ^try {} finally {}
		try { try {} ^} finally {}
		try {} catch ^{}
		try {} catch ( ^) {}
		try {} catch ( ^1) {}
		try {} catch ( ^'e') {}
		try {} catch ( ^this) {}
		try {} catch ( ^{e}) {}
		try {} catch (e ^, f) {}
		try {} catch (e ^= 1) {}
		try {} catch (e) ^a;
		try {} catch (e) ^;
		try {} catch (e) {} ^catch (e) {}
		try {} catch (e) {} finally ^a;
		try {} finally ^(e) {}
		try {} finally {} ^catch (e) {}
		try {} finally {} ^finally {}
	`)
	unfinished(t, `
		try
		try {
		try {}
		try {} catch
		try {} catch (
		try {} catch (e
		try {} catch (e)
		try {} catch (e) {
		try {} catch (e) {} finally
		try {} finally
		try {} finally {
	`)
}

func TestBlocks(t *testing.T) {
	a, b := expr(name("a")), expr(name("b"))
	parses(t, "P1302", "{}", of(api.SBlock))
	parses(t, "P1302", "{ a; b; }", of(api.SBlock, a, b))
	parses(t, "P1302", "{{}{a;}}b;", of(api.SBlock, of(api.SBlock), of(api.SBlock, a)), b)
	wrong(t, `
		{} ^}
		{ a ^}
		{ a; ^)
		{ a; ^]
		{ ^: 1 }
		{ ^, }
	`)
}

func TestStatementsThatBeginLikeExpressions(t *testing.T) {
	wrong(t, `
		{ a ^: 1 };
		{ 'a' ^: 1 };
		{ get ^a() {} };
		{ [a] ^: 1 };
		{} ^.a;
		{} ^= a;
		{} ^+ a;
		function ^(){}
		function f() {} ^= a;
		function f() {} ^? a : a;
	`)
	f := function("", "")
	parses(t, "P1301", "{}[a];", of(api.SBlock), expr(of(api.NArray, name("a"))))
	parses(t, "P1301", "{}-a;", of(api.SBlock), expr(unary("-", name("a"))))
	parses(t, "P1301", "({});", expr(of(api.NObject)))
	parses(t, "P1301", "(function () {});", expr(f))
	parses(t, "P1301", "!{};", expr(unary("!", of(api.NObject))))
	parses(t, "P1301", "!function () {};", expr(unary("!", f)))
	parses(t, "P1301", "return {};", of(api.SReturn, of(api.NObject)))
	parses(t, "P1301", "throw function () {};", of(api.SThrow, f))
	parses(t, "P1301", "new function () {}();", expr(of(api.NNew, f)))
	parses(t, "P1301", "if ({}) {}", of(api.SIf, of(api.NObject), of(api.SBlock)))
	parses(t, "P1301", "a = {};", expr(of(api.NAssign, name("a"), of(api.NObject))))
}
