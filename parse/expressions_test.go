package parse

import (
	"fmt"
	"strings"
	"testing"

	"understudy/api"
)

func TestLiteralsAndNames(t *testing.T) {
	yields(t, "P1302", "0", number(0))
	yields(t, "P1302", "9007199254740991", number(9007199254740991))
	yields(t, "P1302", "''", text(""))
	yields(t, "P1302", "'a\\n\"'", text("a\n\""))
	yields(t, "P1302", `"\ud83d\ude00\u0000é"`, text("\U0001F600\x00é"))
	yields(t, "P1302", `"\ud83d"`, text("\xed\xa0\xbd"))
	yields(t, "P1302", "'true'", text("true"))
	yields(t, "P1302", "'+'", text("+"))
	yields(t, "P1302", "true", of(api.NTrue))
	yields(t, "P1302", "false", of(api.NFalse))
	yields(t, "P1302", "null", of(api.NNull))
	yields(t, "P1302", "undefined", of(api.NUndef))
	yields(t, "P1302", "this", of(api.NThis))
	for _, s := range []string{"a", "_", "$1", "get", "set", "of", "True", "arguments", "print", "typeOf"} {
		yields(t, "P1302", " "+s+" ", name(s))
	}
	long := strings.Repeat("a", api.MaxUnits)
	yields(t, "P1302", "'"+long+"'", text(long))
	for _, s := range []string{
		"break", "catch", "const", "continue", "else", "finally", "if", "in", "let", "return", "throw", "try", "while",
		";", ",", ")", "]", "}", ".", "?", ":", "=", "===", "!==", "&&", "||", "<", ">", "<=", ">=", "+", "*", "/", "%",
	} {
		refuses(t, "P1301", "a = ^"+s+" a;", api.ErrSyntax)
		refuses(t, "P1301", "(^"+s+" a);", api.ErrSyntax)
		refuses(t, "P1301", "a + ^"+s+" a;", api.ErrSyntax)
		refuses(t, "P1301", "! ^"+s+" a;", api.ErrSyntax)
	}
	unfinished(t, "\na\n'a'\n1\nthis\n(\n(a\n(a)\n!\n-\ntypeof\na +\na ===\na = \na ?\na ? b\na ? b :\na ? b : c")
}

// A string or a name is never taken for the punctuator or the word that its
// text is.
func TestStringsAreNoPunctuators(t *testing.T) {
	wrong(t, `
		a ^'+' b;
		a ^';'
		f(a ^',' b);
		f(a ^')';
		a = [ 1 ^']';
		'let' ^x;
		'typeof' ^x;
		'!' ^x;
		x = { a ^':' 1 };
		x = { '}' ^;
		if ^'(' a) b;
		if (a) b; 'else' ^c;
		a ^'=' b;
		a ^'?' b : c;
		a ? b ^':' c;
		a ^'.' b;
		a ^'[' b ];
		'new' ^a();
		'{' ^a; }
	`)
	yields(t, "P1301", "- '-'", unary("-", text("-")))
	yields(t, "P1301", "'in' in 'in'", binary("in", text("in"), text("in")))
}

func TestUnaryOperators(t *testing.T) {
	a, b := name("a"), name("b")
	for _, s := range []string{"!", "-", "typeof"} {
		yields(t, "P1302", s+" a", unary(s, a))
		yields(t, "P1302", s+" - a", unary(s, unary("-", a)))
		yields(t, "P1302", "! "+s+" typeof a", unary("!", unary(s, unary("typeof", a))))
		yields(t, "P1302", s+" a()", unary(s, of(api.NCall, a)))
		yields(t, "P1302", s+" a.b", unary(s, with(api.NMember, "b", a)))
		yields(t, "P1302", s+" new a()", unary(s, of(api.NNew, a)))
		yields(t, "P1302", "("+s+" a)()", of(api.NCall, unary(s, a)))
		for _, sign := range []string{"*", "+", "-", "<", "===", "in"} {
			yields(t, "P1302", s+" a "+sign+" b", binary(sign, unary(s, a), b))
			yields(t, "P1302", "a "+sign+" "+s+" b", binary(sign, a, unary(s, b)))
			yields(t, "P1302", s+" (a "+sign+" b)", unary(s, binary(sign, a, b)))
		}
	}
	yields(t, "P1302", "!!a", unary("!", unary("!", a)))
	yields(t, "P1302", "--a", unary("-", unary("-", a)))
	yields(t, "P1302", "-1", unary("-", number(1)))
	yields(t, "P1302", "a--b", binary("-", a, unary("-", b)))
	wrong(t, `
		a ^!b;
		a ^typeof b;
		a ^delete b.c;
		a ^new b();
		! ^= a;
		! ^;
		new ^!a();
		new ^typeof a();
		^+a;
		- ^+a;
		a + ^+ b;
	`)
}

func TestDelete(t *testing.T) {
	a := name("a")
	ab, ai := with(api.NMember, "b", a), of(api.NIndex, a, name("i"))
	yields(t, "P1302", "delete a.b", unary("delete", ab))
	yields(t, "P1302", "delete a[i]", unary("delete", ai))
	yields(t, "P1302", "delete (a.b)", unary("delete", ab))
	yields(t, "P1302", "delete ((a[i]))", unary("delete", ai))
	yields(t, "P1302", "delete a().b", unary("delete", with(api.NMember, "b", of(api.NCall, a))))
	yields(t, "P1302", "delete new a().b", unary("delete", with(api.NMember, "b", of(api.NNew, a))))
	yields(t, "P1302", "delete new a()[i]", unary("delete", of(api.NIndex, of(api.NNew, a), name("i"))))
	yields(t, "P1302", "delete this.b", unary("delete", with(api.NMember, "b", of(api.NThis))))
	yields(t, "P1302", "delete 'a'[i]", unary("delete", of(api.NIndex, text("a"), name("i"))))
	yields(t, "P1302", "delete a.b + a", binary("+", unary("delete", ab), a))
	yields(t, "P1302", "delete a.b in delete a[i]", binary("in", unary("delete", ab), unary("delete", ai)))
	yields(t, "P1302", "!delete a.b", unary("!", unary("delete", ab)))
	yields(t, "P1302", "typeof delete (a = a).b", unary("typeof", unary("delete", with(api.NMember, "b", of(api.NAssign, a, a)))))
	wrong(t, `
		delete a ^;
		delete a ^+ b;
		(delete a ^);
		delete a ^= b;
		delete a.b ^= c;
		delete a ^b;
		delete (a) ^;
		delete ((a) ^;
		delete (a.b ^;
		delete (a ^, b);
		delete 1 ^;
		delete 'a' ^;
		delete this ^;
		delete a() ^;
		delete a.b() ^;
		delete new a() ^;
		delete new a.b() ^;
		delete [a] ^;
		delete {} ^;
		delete {a: 1} ^;
		delete function () {} ^;
		delete (a + b.c) ^;
		delete (a = b.c) ^;
		delete (a ? b.c : b.c) ^;
		delete !a.b ^;
		delete - a.b ^;
		delete typeof a.b ^+ 1;
		delete delete a.b ^;
		delete delete a ^;
		delete ! delete a ^;
		delete ^;
		delete ^* a;
		delete a. ^;
		a + delete b ^+ c.d;
	`)
	unfinished(t, `
		delete
		delete a
		delete a.
		delete a[
		delete a()
		delete !a.b
	`)
}

// signs are the binary operators, line by line of the grammar.
func signs() [][]string {
	return [][]string{{"||"}, {"&&"}, {"===", "!=="}, {"<", ">", "<=", ">=", "in"}, {"+", "-"}, {"*", "/", "%"}}
}

func joined(sign string, left, right api.Node) api.Node {
	switch sign {
	case "||":
		return of(api.NOr, left, right)
	case "&&":
		return of(api.NAnd, left, right)
	}
	return binary(sign, left, right)
}

func TestBinaryOperators(t *testing.T) {
	a, b, c := name("a"), name("b"), name("c")
	for i, line := range signs() {
		for _, first := range line {
			yields(t, "P1302", "a "+first+" b", joined(first, a, b))
			for j, other := range signs() {
				for _, second := range other {
					s := fmt.Sprintf("a %s b %s c", first, second)
					left := joined(second, joined(first, a, b), c)
					right := joined(first, a, joined(second, b, c))
					if i < j {
						yields(t, "P1301", s, right)
					} else {
						yields(t, "P1302", s, left)
					}
					yields(t, "P1302", fmt.Sprintf("(a %s b) %s c", first, second), left)
					yields(t, "P1302", fmt.Sprintf("a %s (b %s c)", first, second), right)
				}
			}
			refuses(t, "P1301", "a "+first+" ^;", api.ErrSyntax)
			refuses(t, "P1301", "a "+first+" b ^= c;", api.ErrSyntax)
		}
	}
	all := binary("-", binary("+", a, binary("*", b, c)), binary("%", binary("/", a, b), c))
	yields(t, "P1302", "a+b*c-a/b%c", all)
	yields(t, "P1302", "a || b && c === a < b + c * a", joined("||", a, joined("&&", b, joined("===", c, joined("<", a, joined("+", b, joined("*", c, a)))))))
	yields(t, "P1302", "a * b + c < a === b && c || a", joined("||", joined("&&", joined("===", joined("<", joined("+", joined("*", a, b), c), a), b), c), a))
	wrong(t, `
		a < ^= b;
		a = ^= b;
		a ^! == b;
		a ^!b;
		a in ^;
		a in ^in b;
		a + ^* b;
		a + b ^c;
		a + b ^'c';
	`)
}

func TestConditions(t *testing.T) {
	a, b, c, d, e := name("a"), name("b"), name("c"), name("d"), name("e")
	yields(t, "P1302", "a ? b : c", of(api.NCond, a, b, c))
	yields(t, "P1302", "a || b ? c : d", of(api.NCond, of(api.NOr, a, b), c, d))
	yields(t, "P1302", "a ? b : c || d", of(api.NCond, a, b, of(api.NOr, c, d)))
	yields(t, "P1302", "a ? b : c ? d : e", of(api.NCond, a, b, of(api.NCond, c, d, e)))
	yields(t, "P1302", "a ? b ? c : d : e", of(api.NCond, a, of(api.NCond, b, c, d), e))
	yields(t, "P1302", "(a ? b : c) ? d : e", of(api.NCond, of(api.NCond, a, b, c), d, e))
	yields(t, "P1302", "a ? b = c : d = e", of(api.NCond, a, of(api.NAssign, b, c), of(api.NAssign, d, e)))
	yields(t, "P1302", "a ? {b: c} : {d: e}", of(api.NCond, a, of(api.NObject, pair("b", c)), of(api.NObject, pair("d", e))))
	wrong(t, `
		a ? ^: b;
		a ? b ^;
		a ? b : ^;
		a ? b ^, c : d;
		a ? b : c ^: d;
		a ^: b;
		^? a : b;
		a ? ^? b : c;
		(a ? b : c) ^= d;
		a ? b ^) : c;
		a ? 1 ^= b : c;
		a ? b : 1 ^= c;
	`)
}

func TestAssignments(t *testing.T) {
	a, b, c := name("a"), name("b"), name("c")
	ab, ai := with(api.NMember, "b", a), of(api.NIndex, a, b)
	yields(t, "P1302", "a = b", of(api.NAssign, a, b))
	yields(t, "P1302", "a.b = c", of(api.NAssign, ab, c))
	yields(t, "P1302", "a[b] = c", of(api.NAssign, ai, c))
	yields(t, "P1302", "a = b = c", of(api.NAssign, a, of(api.NAssign, b, c)))
	yields(t, "P1302", "a = a.b = a[b] = c", of(api.NAssign, a, of(api.NAssign, ab, of(api.NAssign, ai, c))))
	yields(t, "P1302", "(a) = b", of(api.NAssign, a, b))
	yields(t, "P1302", "((a.b)) = b", of(api.NAssign, ab, b))
	yields(t, "P1302", "(a = b) + c", binary("+", of(api.NAssign, a, b), c))
	yields(t, "P1302", "a = b ? b : c", of(api.NAssign, a, of(api.NCond, b, b, c)))
	yields(t, "P1302", "a = b || c", of(api.NAssign, a, of(api.NOr, b, c)))
	yields(t, "P1302", "a().b = c", of(api.NAssign, with(api.NMember, "b", of(api.NCall, a)), c))
	yields(t, "P1302", "this.b = c", of(api.NAssign, with(api.NMember, "b", of(api.NThis)), c))
	yields(t, "P1302", "new a()[b] = c", of(api.NAssign, of(api.NIndex, of(api.NNew, a), b), c))
	yields(t, "P1302", "({}).b = c", of(api.NAssign, with(api.NMember, "b", of(api.NObject)), c))
	yields(t, "P1302", "get = set", of(api.NAssign, name("get"), name("set")))
	wrong(t, `
		1 ^= a;
		'a' ^= a;
		this ^= a;
		null ^= a;
		true ^= a;
		false ^= a;
		undefined ^= a;
		a() ^= b;
		a.b() ^= c;
		new a() ^= b;
		new a.b() ^= c;
		[a] ^= b;
		({a: b} ^= c);
		({}) ^= c;
		(function () {}) ^= a;
		!a ^= b;
		- a.b ^= c;
		typeof a ^= b;
		delete a.b ^= c;
		a + b ^= c;
		a + b.c ^= d;
		a || b ^= c;
		a && b ^= c;
		(a = b) ^= c;
		(a + b) ^= c;
		(a ? b : c) ^= d;
		a = b + c ^= d;
		a = 1 ^= b;
		f(1 ^= a);
		[1 ^= a];
		x = {a: 1 ^= a};
		x = {[1 ^= a]: b};
		if (1 ^= a) b;
		a[1 ^= b];
		a = ^;
		a = ^= b;
	`)
}

func TestParenthesesHaveNoNode(t *testing.T) {
	yields(t, "P1302", "(a)", name("a"))
	yields(t, "P1302", "((('a')))", text("a"))
	yields(t, "P1302", "((a).b)", with(api.NMember, "b", name("a")))
	yields(t, "P1302", "(a)((b))", of(api.NCall, name("a"), name("b")))
	yields(t, "P1302", "[(a)]", of(api.NArray, name("a")))
	wrong(t, `
		( ^);
		(a ^;
		(a ^, b);
		(a) ^);
		(a ^];
		(a ^b);
		( ^; a);
	`)
}

func TestCallsAndMembers(t *testing.T) {
	a, b, c := name("a"), name("b"), name("c")
	ab := with(api.NMember, "b", a)
	yields(t, "P1302", "a()", of(api.NCall, a))
	yields(t, "P1302", "a(b)", of(api.NCall, a, b))
	yields(t, "P1302", "a(b, c, 1)", of(api.NCall, a, b, c, number(1)))
	yields(t, "P1302", "a(b = c, b ? c : a)", of(api.NCall, a, of(api.NAssign, b, c), of(api.NCond, b, c, a)))
	yields(t, "P1302", "a()()(b)", of(api.NCall, of(api.NCall, of(api.NCall, a)), b))
	yields(t, "P1302", "a.b()", of(api.NCall, ab))
	yields(t, "P1302", "a().b", with(api.NMember, "b", of(api.NCall, a)))
	yields(t, "P1302", "a.b.c", with(api.NMember, "c", ab))
	yields(t, "P1302", "a[b]", of(api.NIndex, a, b))
	yields(t, "P1302", "a[b][c]", of(api.NIndex, of(api.NIndex, a, b), c))
	yields(t, "P1302", "a[b = c]", of(api.NIndex, a, of(api.NAssign, b, c)))
	yields(t, "P1302", "a['b']", of(api.NIndex, a, text("b")))
	yields(t, "P1302", "a[b](c).b[c]", of(api.NIndex, with(api.NMember, "b", of(api.NCall, of(api.NIndex, a, b), c)), c))
	yields(t, "P1302", "1 .b", with(api.NMember, "b", number(1)))
	yields(t, "P1302", "'a'.b", with(api.NMember, "b", text("a")))
	yields(t, "P1302", "this.b", with(api.NMember, "b", of(api.NThis)))
	yields(t, "P1302", "[a][b]", of(api.NIndex, of(api.NArray, a), b))
	yields(t, "P1302", "null()", of(api.NCall, of(api.NNull)))
	yields(t, "P1302", "({}).b", with(api.NMember, "b", of(api.NObject)))
	for _, s := range append(words(), "a", "get", "set", "$", "_1") {
		yields(t, "P1301", "a."+s, with(api.NMember, s, a))
		yields(t, "P1301", "a."+s+".b()", of(api.NCall, with(api.NMember, "b", with(api.NMember, s, a))))
	}
	wrong(t, `
		a( ^,);
		a(b, ^);
		a(b ^c);
		a(b, ^, c);
		a( ^;
		a(b ^;
		a(b ^];
		a(b) ^c;
		a[ ^];
		a[b ^, c];
		a[b ^);
		a[b ^;
		a. ^;
		a. ^1;
		a. ^'b';
		a. ^[b];
		a. ^(b);
		a. ^.b;
		a. ^{};
		a ^{};
		a() ^{};
		a ^b;
		a ^1;
		a ^'b';
		1 ^1;
		a ^this;
		a ^function () {};
	`)
	unfinished(t, `
		a.
		a.b
		a[
		a[b
		a[b]
		a(
		a(b
		a(b,
		a(b)
	`)
}

func words() []string {
	return strings.Fields("break catch const continue delete else false finally function if in let new null return this throw true try typeof undefined while")
}

func TestNew(t *testing.T) {
	a, b, c := name("a"), name("b"), name("c")
	ab := with(api.NMember, "b", a)
	yields(t, "P1302", "new a()", of(api.NNew, a))
	yields(t, "P1302", "new a(b, c)", of(api.NNew, a, b, c))
	yields(t, "P1302", "new a.b()", of(api.NNew, ab))
	yields(t, "P1302", "new a.b.if(c)", of(api.NNew, with(api.NMember, "if", ab), c))
	yields(t, "P1302", "new a[b](c)", of(api.NNew, of(api.NIndex, a, b), c))
	yields(t, "P1302", "new a[b].c[a]()", of(api.NNew, of(api.NIndex, with(api.NMember, "c", of(api.NIndex, a, b)), a)))
	yields(t, "P1302", "new a().b", with(api.NMember, "b", of(api.NNew, a)))
	yields(t, "P1302", "new a()[b]", of(api.NIndex, of(api.NNew, a), b))
	yields(t, "P1302", "new a()()", of(api.NCall, of(api.NNew, a)))
	yields(t, "P1302", "new a(b)(c).b(c)", of(api.NCall, with(api.NMember, "b", of(api.NCall, of(api.NNew, a, b), c)), c))
	yields(t, "P1302", "new (a())()", of(api.NNew, of(api.NCall, a)))
	yields(t, "P1302", "new (a().b)()", of(api.NNew, with(api.NMember, "b", of(api.NCall, a))))
	yields(t, "P1302", "new (a()).b()", of(api.NNew, with(api.NMember, "b", of(api.NCall, a))))
	yields(t, "P1302", "new (new a())()", of(api.NNew, of(api.NNew, a)))
	yields(t, "P1302", "new (a = b)()", of(api.NNew, of(api.NAssign, a, b)))
	yields(t, "P1302", "new this()", of(api.NNew, of(api.NThis)))
	yields(t, "P1302", "new 1()", of(api.NNew, number(1)))
	yields(t, "P1302", "new 'a'()", of(api.NNew, text("a")))
	yields(t, "P1302", "new null()", of(api.NNew, of(api.NNull)))
	yields(t, "P1302", "new [a]()", of(api.NNew, of(api.NArray, a)))
	yields(t, "P1302", "new {}()", of(api.NNew, of(api.NObject)))
	yields(t, "P1302", "new function f() {}()", of(api.NNew, function("f", "")))
	yields(t, "P1302", "new a(new b())", of(api.NNew, a, of(api.NNew, b)))
	yields(t, "P1302", "new a() + b", binary("+", of(api.NNew, a), b))
	wrong(t, `
		new ^;
		new ( ^)();
		new a ^;
		new a ^+ b;
		new a ^= b;
		new a.b ^;
		new a.b ^= c;
		new a[b] ^;
		new (a ^;
		new ^new a()();
		new ^-a();
		new ^!a();
		new ^delete a.b();
		new ^.a();
		new a. ^1();
		new a. ^();
		new a ^b();
		new a ^{};
		new a(b, ^);
		new a( ^,);
		(new a ^);
		new (a) ^;
		new a ^new b();
	`)
	unfinished(t, `
		new
		new a
		new a.
		new a.b
		new a[
		new a[b]
		new a(
		new a(b,
		new a()
	`)
}

func TestArrays(t *testing.T) {
	a, b := name("a"), name("b")
	yields(t, "P1302", "[]", of(api.NArray))
	yields(t, "P1302", "[a]", of(api.NArray, a))
	yields(t, "P1302", "[a, b, 1]", of(api.NArray, a, b, number(1)))
	yields(t, "P1302", "[[], [[a]]]", of(api.NArray, of(api.NArray), of(api.NArray, of(api.NArray, a))))
	yields(t, "P1302", "[a = b]", of(api.NArray, of(api.NAssign, a, b)))
	wrong(t, `
		[ ^,];
		[a, ^];
		[a ^b];
		[a, ^, b];
		[a ^);
		[a ^;
		[ ^;
		[a] ^];
		[ ^)
	`)
	unfinished(t, "[\n[a\n[a,\n[a]\n[[")
}
