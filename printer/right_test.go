package printer

import (
	"strings"
	"testing"

	"understudy/api"
)

const most = 1<<53 - 1

func name(s string) api.Node { return named(api.NName, s) }

func function(name string, params ...string) api.Node {
	return api.Node{Kind: api.NFunc, Text: name, Names: params}
}

func number(n int) api.Node { return api.Node{Kind: api.NNumber, Num: n} }

// withVariable returns programs that have s where the name of a variable, of a
// function or of a parameter stands.
func withVariable(s string) []api.Node {
	f := function("", s)
	return []api.Node{
		prog(name(s)),
		prog(of(api.NAssign, name(s), name("a"))),
		single(named(api.SLet, s)),
		single(named(api.SLet, s, number(1))),
		single(named(api.SConst, s, number(1))),
		single(of(api.SFunc, function(s))),
		single(of(api.SFunc, function("f", s))),
		single(of(api.SFunc, function("f", "a", "b", s))),
		single(api.Node{Kind: api.STry, Num: 1, Kids: []api.Node{of(api.SBlock), named(api.SCatch, s, of(api.SBlock))}}),
		prog(f),
		prog(function("f", s, "a")),
		prog(of(api.NObject, named(api.NSet, "k", f))),
	}
}

func notNames() []string {
	return []string{
		"1", "1a", "0", "-", "-a", "a-", "a b", " a", "a ", "a\n", "a.b", "a;", "a,b", "(a)", "'a'", `"a"`, "a//", "a\x00",
		"\x00", "#", "@", "a#", "é", "aé", "ａ", "a\u0301", "a\xff", "\xff", "\xed\xa0\xbd", "\U0001F600", "a\u200c", "+", "[", "`a`", "a{", "a:", "a/", "^", "~", "A@", "Z[", "z{",
	}
}

func TestVariables(t *testing.T) {
	for _, s := range []string{"a", "z", "A", "Z", "_", "$", "a0", "z9", "_1", "$_", "get", "set", "of", "async", "Undefined", "If", "iff", "in1", "_if", strings.Repeat("ab", api.MaxUnits)} {
		right(t, withVariable(s)...)
	}
	words := "break catch const continue delete else false finally function if in let new null return this throw true try typeof undefined while " +
		"await case class debugger default do enum export extends for implements import instanceof interface package private protected public static super switch var void with yield"
	for _, s := range append(notNames(), strings.Fields(words)...) {
		wrong(t, withVariable(s)...)
	}
	for _, n := range withVariable("") {
		if n.Kids[0].Kind != api.SExpr || n.Kids[0].Kids[0].Kind != api.NFunc {
			wrong(t, n)
		}
	}
	wrong(t, prog(function("", "")), prog(function("f", "a", "")))
}

func TestNamesOfFunctionsInExpressions(t *testing.T) {
	right(t, prog(function("")), prog(function("f")), prog(function("get", "get", "get")))
	for _, s := range append(notNames(), "if", "true", "undefined", "class") {
		wrong(t, prog(function(s)))
	}
	wrong(t, single(of(api.SFunc, function(""))))
	wrong(t, single(named(api.SFunc, "f", function("f"))))
	wrong(t, single(named(api.SFunc, "f", function(""))))
}

func TestMembers(t *testing.T) {
	for _, s := range strings.Fields("a $ _ a1 get break catch const continue delete else false finally function if in let new null return this throw true try typeof undefined while") {
		right(t, prog(named(api.NMember, s, name("a"))))
	}
	for _, s := range append(notNames(), strings.Fields("await case class debugger default do enum export extends for implements import instanceof interface package private protected public static super switch var void with yield")...) {
		wrong(t, prog(named(api.NMember, s, name("a"))))
	}
	wrong(t, prog(named(api.NMember, "", name("a"))))
}

// withString returns programs that have s where a string stands.
func withString(s string) []api.Node {
	text := named(api.NString, s)
	return []api.Node{
		prog(text),
		prog(of(api.NArray, text)),
		prog(of(api.NObject, of(api.NPair, text, number(1)))),
		prog(of(api.NObject, named(api.NGet, s, function("")))),
		prog(of(api.NObject, named(api.NSet, s, function("", "v")))),
	}
}

func TestStringsAndKeys(t *testing.T) {
	long := strings.Repeat("a", api.MaxUnits)
	wide := strings.Repeat("\U0001F600", api.MaxUnits/2)
	for _, s := range []string{"", "a", "class", "if", "1", "a b", "\n\x00", `"\`, "é\uffff", "\U0001F600", "\xed\xa0\xbd", "\xed\xb8\x80\xed\xa0\xbd", "\ufffd", long, wide, wide[4:] + "\xed\xa0\xbdx"} {
		right(t, withString(s)...)
	}
	for _, s := range []string{"\xff", "a\x80", "\xc3", "\xc0\x80", "\xf4\x90\x80\x80", "\xed\xa0\xbd\xed\xb8\x80", "\xed\xa0", long + "a", wide + "\x00", wide[4:] + "ab\u00e9", wide[4:] + "x\U0001F600"} {
		wrong(t, withString(s)...)
	}
}

// Parse accepts a longer key if it is a name, but P1401 rules it out, and there
// is no canonical text for it.
func TestKeysThatAreTooLong(t *testing.T) {
	long := strings.Repeat("a", api.MaxUnits)
	for _, s := range []string{"({^: 1})", "({get ^() {}})", "({set ^(v) {}})"} {
		right(t, tree(t, strings.Replace(s, "^", long, 1)+";"))
		wrong(t, tree(t, strings.Replace(s, "^", long+"a", 1)+";"))
	}
	right(t, tree(t, "a."+long+"a;"), tree(t, "let "+long+"a;"))
}

func TestNumbers(t *testing.T) {
	for _, n := range []int{0, 1, 10, 1 << 32, most - 1, most} {
		right(t, prog(number(n)), prog(named(api.NUnary, "-", number(n))))
	}
	for _, n := range []int{-1, -10, -most, most + 1, most + 2, 1 << 62, -1 << 63, 1<<63 - 1} {
		wrong(t, prog(number(n)), prog(named(api.NUnary, "-", number(n))))
	}
}

func TestAccessors(t *testing.T) {
	get := func(f api.Node) api.Node { return prog(of(api.NObject, named(api.NGet, "k", f))) }
	set := func(f api.Node) api.Node { return prog(of(api.NObject, named(api.NSet, "k", f))) }
	right(t, get(function("")), set(function("", "a")), get(of(api.NFunc, of(api.SEmpty), of(api.SReturn))))
	wrong(t, get(function("", "a")), get(function("", "a", "b")), get(function("", "")))
	wrong(t, set(function("")), set(function("", "a", "b")), set(function("", "")), set(function("", "if")))
	wrong(t, get(function("f")), get(function("k")), set(function("f", "a")), set(function("k", "a")))
	wrong(t, get(of(api.SFunc, function("f"))), get(name("a")), set(name("a")), set(of(api.SBlock)))
	wrong(t, get(of(api.NFunc, name("a"))), get(of(api.NFunc, of(api.NFunc))))
}

func TestUnaryOperators(t *testing.T) {
	for _, sign := range []string{"!", "-", "typeof"} {
		right(t, prog(named(api.NUnary, sign, name("a"))), prog(named(api.NUnary, sign, number(1))))
	}
	for _, sign := range []string{"", "+", "~", "++", "--", "!!", "- ", " -", "void", "await", "new", "typeof ", "Typeof", "in", "delete ", "===", "a"} {
		wrong(t, prog(named(api.NUnary, sign, inside(t, "a.b"))))
	}
	right(t, prog(named(api.NUnary, "delete", inside(t, "a.b"))), prog(named(api.NUnary, "delete", inside(t, "a[b]"))))
	for _, s := range []string{"a", "1", "'a'", "a()", "this", "a.b()", "new a()", "!a.b", "delete a.b", "a + b", "a ? b : c", "a = b", "a.b = c", "[a]", "({})", "(function () {})", "a && b"} {
		wrong(t, prog(named(api.NUnary, "delete", inside(t, s))))
	}
}

func TestBinaryOperators(t *testing.T) {
	two := []api.Node{name("a"), name("b")}
	for _, sign := range strings.Fields("=== !== < > <= >= in + - * / %") {
		right(t, prog(named(api.NBinary, sign, two...)))
		for _, kind := range []int{api.NAnd, api.NOr, api.NAssign, api.NIndex} {
			wrong(t, prog(named(kind, sign, two...)))
		}
	}
	for _, sign := range []string{"", "&&", "||", "=", "==", "!=", "!", ".", ",", "?", ":", "**", "&", "|", "^", "<<", ">>", "+=", " +", "+ ", "instanceof", "of", "typeof", "delete", "++", "a", "In"} {
		wrong(t, prog(named(api.NBinary, sign, two...)))
	}
	wrong(t, prog(named(api.NAnd, "&&", two...)), prog(named(api.NOr, "||", two...)), prog(named(api.NAssign, "=", two...)))
	right(t, prog(of(api.NAnd, two...)), prog(of(api.NOr, two...)), prog(of(api.NAssign, two...)), prog(of(api.NIndex, two...)))
}

func TestTargets(t *testing.T) {
	for _, s := range []string{"a", "a.b", "a[b]", "a().b", "a.b.c", "'a'.b"} {
		right(t, prog(of(api.NAssign, inside(t, s), name("x"))))
	}
	for _, s := range []string{"1", "'a'", "true", "undefined", "this", "a()", "a.b()", "new a()", "!a", "delete a.b", "a + b", "a && b", "a ? b : c", "a = b", "[a]", "({a: b})", "(function f() {})"} {
		wrong(t, prog(of(api.NAssign, inside(t, s), name("x"))))
	}
}

func TestElse(t *testing.T) {
	choice := func(then api.Node) api.Node {
		return single(of(api.SIf, name("a"), then, of(api.SEmpty)))
	}
	for _, s := range []string{
		"if (a) ;", "while (a) if (b) ;", "while (a) while (b) if (c) ;", "if (a) ; else if (b) ;",
		"if (a) ; else while (b) if (c) ;", "if (a) ; else if (b) ; else if (c) ;", "while (a) if (b) ; else if (c) { }",
		"if (a) { } ", "if (a) { if (b) ; else ; }",
	} {
		n := first(t, s)
		wrong(t, choice(n), single(of(api.SBlock, choice(n).Kids[0])))
		right(t, choice(of(api.SBlock, n)), single(n), single(of(api.SIf, name("a"), of(api.SEmpty), n)), single(of(api.SIf, name("a"), n)))
	}
	for _, s := range []string{
		"if (a) ; else ;", "while (a) ;", "while (a) if (b) ; else ;", "{ if (a) ; }", "while (a) { if (b) ; }", "function f() { if (a) ; }",
		"try { if (a) ; } finally { if (a) ; }", "if (a) { if (b) ; } else { if (c) ; }", "if (a) while (b) if (c) ; else ; else while (d) ;",
		"(function () { if (a) ; });", "return;",
	} {
		right(t, choice(first(t, s)))
	}
	wrong(t, choice(first(t, "if (a) if (b) ; else ;")))
}

func TestTryForms(t *testing.T) {
	b, c := of(api.SBlock), named(api.SCatch, "e", of(api.SBlock))
	attempt := func(num int, kids ...api.Node) api.Node {
		return single(api.Node{Kind: api.STry, Num: num, Kids: kids})
	}
	right(t, attempt(1, b, c), attempt(2, b, b), attempt(3, b, c, b))
	for num := -8; num <= 8; num++ {
		for _, kids := range [][]api.Node{{}, {b}, {c}, {b, b}, {b, c}, {c, b}, {c, c}, {b, b, b}, {b, c, b}, {b, b, c}, {b, c, c}, {c, b, b}, {b, c, b, b}} {
			n := attempt(num, kids...)
			judged(t, n, returnable(n), plain(n))
		}
	}
	wrong(t, attempt(2, b, of(api.SEmpty)), attempt(2, of(api.SEmpty), b), attempt(1, b, named(api.SCatch, "e")))
	wrong(t, attempt(1, b, named(api.SCatch, "e", b, b)), attempt(1, b, named(api.SCatch, "e", of(api.SEmpty))))
	wrong(t, attempt(1<<62+1, b, c), attempt(-1<<63+1, b, c))
}

func TestOnlyProgramsAreRight(t *testing.T) {
	right(t, api.Node{Kind: api.SProgram}, api.Node{Kind: api.SProgram, Names: []string{}, Kids: []api.Node{}})
	wrong(t, api.Node{})
	for _, s := range samples() {
		for _, n := range all(new(tree(t, s)))[1:] {
			wrong(t, *n)
		}
	}
	wrong(t, api.Node{Kind: api.SProgram, Num: 1}, api.Node{Kind: api.SProgram, Text: "a"}, api.Node{Kind: api.SProgram, Names: []string{""}})
	wrong(t, single(of(api.SProgram)), single(of(api.SBlock, of(api.SProgram))))
}

// Early errors are no matter of this package.
func TestProgramsWithEarlyErrors(t *testing.T) {
	for _, s := range []string{"return;", "break;", "continue;", "let a; let a;", "function f(a, a) {}", "if (a) let b;", "while (a) function f() {}", "if (a) const b = 1; else let c;", "(function (a) { let a; });"} {
		right(t, tree(t, s))
	}
}
