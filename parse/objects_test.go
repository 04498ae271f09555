package parse

import (
	"strings"
	"testing"

	"understudy/api"
)

func object(elements ...api.Node) api.Node { return of(api.NObject, elements...) }

// getter and setter have the one function that they have in a tree.
func getter(key string, body ...api.Node) api.Node {
	return with(api.NGet, key, function("", "", body...))
}

func setter(key, param string, body ...api.Node) api.Node {
	return with(api.NSet, key, function("", param, body...))
}

func TestFunctionExpressions(t *testing.T) {
	a, b := name("a"), name("b")
	value := func(source string, want api.Node) {
		t.Helper()
		parses(t, "P1302", "x = "+source+";", expr(of(api.NAssign, name("x"), want)))
	}
	value("function () {}", function("", ""))
	value("function f() {}", function("f", ""))
	value("function (a) { b; }", function("", "a", expr(b)))
	value("function f(a, b, a) { return a; { ; } }", function("f", "a b a", of(api.SReturn, a), of(api.SBlock, of(api.SEmpty))))
	value("function get(set) {}", function("get", "set"))
	value("function () { return function g() {}; }", function("", "", of(api.SReturn, function("g", ""))))
	value("function () {}()", of(api.NCall, function("", "")))
	value("function f() {}.a", with(api.NMember, "a", function("f", "")))
	value("function () { function g() {} }", function("", "", of(api.SFunc, function("g", ""))))
	value("function () {} + b", binary("+", function("", ""), b))
	value("[function () {}, b]", of(api.NArray, function("", ""), b))
	wrong(t, `
		x = function ^;
		x = function ^{};
		x = function ^1() {};
		x = function ^'f'() {};
		x = function ^if() {};
		x = function ^this() {};
		x = function f ^g() {};
		x = function f ^{};
		x = function ( ^1) {};
		x = function ( ^if) {};
		x = function ( ^,) {};
		x = function (a, ^) {};
		x = function (a ^b) {};
		x = function (a ^= b) {};
		x = function (a, ^[b]) {};
		x = function () ^;
		x = function () ^a;
		x = function () {a ^};
		x = function () {} ^a;
		x = function () {} ^{};
		x = function () {} ^= a;
	`)
	unfinished(t, `
		x = function
		x = function f
		x = function (
		x = function (a
		x = function (a,
		x = function (a)
		x = function () {
		x = function () {}
	`)
}

func TestPairs(t *testing.T) {
	a, b := name("a"), name("b")
	yields(t, "P1302", "({})", object())
	yields(t, "P1302", "({a: b})", object(pair("a", b)))
	yields(t, "P1302", "({a: b, b: a, a: 1})", object(pair("a", b), pair("b", a), pair("a", number(1))))
	yields(t, "P1302", "({'': a, 'a b': b, \"\\n\": a})", object(pair("", a), pair("a b", b), pair("\n", a)))
	yields(t, "P1302", `({"\ud83d": a})`, object(pair("\xed\xa0\xbd", a)))
	yields(t, "P1302", "({0: a, 10: b, 9007199254740991: a})", object(pair("0", a), pair("10", b), pair("9007199254740991", a)))
	yields(t, "P1302", "({a: b = a})", object(pair("a", of(api.NAssign, b, a))))
	yields(t, "P1302", "({a: b ? a : b})", object(pair("a", of(api.NCond, b, a, b))))
	yields(t, "P1302", "({a: {b: {}}})", object(pair("a", object(pair("b", object())))))
	yields(t, "P1302", "({a: function f() {}})", object(pair("a", function("f", ""))))
	yields(t, "P1302", "({__proto__: a})", object(pair("__proto__", a)))
	for _, s := range append(words(), "get", "set", "a", "$", "_") {
		yields(t, "P1302", "({"+s+": a})", object(pair(s, a)))
		yields(t, "P1302", "({b: a, "+s+" : a})", object(pair("b", a), pair(s, a)))
	}
	yields(t, "P1302", "({[a]: b})", object(of(api.NPair, a, b)))
	yields(t, "P1302", "({['a']: b})", object(pair("a", b)))
	yields(t, "P1302", "({[1]: b})", object(of(api.NPair, number(1), b)))
	yields(t, "P1302", "({[a = b]: b, [a + b]: a})", object(of(api.NPair, of(api.NAssign, a, b), b), of(api.NPair, binary("+", a, b), a)))
	yields(t, "P1302", "({[[a]]: [b]})", object(of(api.NPair, of(api.NArray, a), of(api.NArray, b))))
	wrong(t, `
		({a ^});
		({a ^, b});
		({a ^= 1});
		({a ^() {}});
		({a ^b: 1});
		({a ^.b: 1});
		({a: ^});
		({a: ^, b: 1});
		({a: b, ^});
		({ ^, a: b});
		({a: b ^c: d});
		({a: b ^; c: d});
		({a: b ^);
		({a: b ^];
		({'a' ^});
		({'a' ^, b: a});
		({1 ^});
		({1 ^() {}});
		({if ^});
		({ ^-1: a});
		({ ^(a): b});
		({ ^{}: b});
		({ ^+: b});
		({ ^.a});
		({ ^: a});
		({ ^;});
		({ ^)
		({[ ^]: a});
		({[a ^, b]: a});
		({[a ^): b});
		({[a] ^});
		({[a] ^, b: a});
		({[a] ^() {}});
		({[a] ^= b});
		({[a]: ^});
	`)
	unfinished(t, `
		({
		({a
		({a:
		({a: b
		({a: b,
		({'a'
		({1
		({if
		({[
		({[a
		({[a]
		({[a]:
		({[a]: b
		({}
		({})
	`)
}

func TestAccessors(t *testing.T) {
	a, b := name("a"), name("b")
	back := of(api.SReturn, b)
	yields(t, "P1302", "({get a() {}})", object(getter("a")))
	yields(t, "P1302", "({get a() { return b; ; }})", object(getter("a", back, of(api.SEmpty))))
	yields(t, "P1302", "({set a(b) {}})", object(setter("a", "b")))
	yields(t, "P1302", "({set a(b) { b; return b; }})", object(setter("a", "b", expr(b), back)))
	yields(t, "P1302", "({get a() {}, set a(b) {}, a: b})", object(getter("a"), setter("a", "b"), pair("a", b)))
	for _, s := range append(words(), "get", "set", "a", "$") {
		yields(t, "P1302", "({get "+s+"() {}})", object(getter(s)))
		yields(t, "P1302", "({set "+s+"(get) {}})", object(setter(s, "get")))
	}
	yields(t, "P1302", "({get 'a b'() {}, set ''(set) {}})", object(getter("a b"), setter("", "set")))
	yields(t, "P1302", "({get 'get'() {}, set \"set\"(a) {}})", object(getter("get"), setter("set", "a")))
	yields(t, "P1302", "({get 7() {}, set 10(a) {}})", object(getter("7"), setter("10", "a")))
	// With a colon behind it, each is a key like any other.
	yields(t, "P1302", "({get: a, set: b})", object(pair("get", a), pair("set", b)))
	yields(t, "P1302", "({get /* */\n: a})", object(pair("get", a)))
	yields(t, "P1302", "({get get() {}, set set(a) {}, get: get})", object(getter("get"), setter("set", "a"), pair("get", name("get"))))
	yields(t, "P1302", "({get set() {}, set get(set) {}, get: set})", object(getter("set"), setter("get", "set"), pair("get", name("set"))))
	yields(t, "P1302", "({'get': a, 'set': b})", object(pair("get", a), pair("set", b)))
	wrong(t, `
		({get ^});
		({set ^});
		({get ^, a: b});
		({set ^, a: b});
		({get ^() {}});
		({set ^(a) {}});
		({get ^[a]() {}});
		({set ^[a](b) {}});
		({get ^= a});
		({get ^-1() {}});
		({set ^{}: a});
		({get a ^});
		({get a ^: b});
		({get get ^: b});
		({set get ^: b});
		({get 'a' ^: b});
		({get a ^, b: a});
		({get a( ^b) {}});
		({get a( ^this) {}});
		({get a() ^b});
		({get a() ^});
		({get a() ^: b});
		({get a() ^;});
		({get a() {} ^b: a});
		({get a() {} ^() {}});
		({get a() {} ^;});
		({get a() {}, ^});
		({set a( ^) {}});
		({set a( ^1) {}});
		({set a( ^'b') {}});
		({set a( ^this) {}});
		({set a( ^[b]) {}});
		({set a(b ^, c) {}});
		({set a(b ^= 1) {}});
		({set a(b ^c) {}});
		({set a(b) ^});
		({set a(b) ^: c});
		({set a(b) {} ^set b(c) {}});
		({'get' ^a() {}});
		({'set' ^a(b) {}});
		({get a ^b() {}});
		({get get ^get() {}});
		({Get ^a() {}});
		({a ^get() {}});
		({if ^a() {}});
		({1 ^a() {}});
		x = get ^a() {};
	`)
	unfinished(t, `
		({get
		({set
		({get a
		({get 'a'
		({get 1
		({get if
		({get a(
		({get a()
		({get a() {
		({get a() {}
		({set a
		({set a(
		({set a(b
		({set a(b)
		({set a(b) {
	`)
}

func TestManyInOneList(t *testing.T) {
	const many = 20000
	again := func(n api.Node) []api.Node {
		list := make([]api.Node, many)
		for i := range list {
			list[i] = n
		}
		return list
	}
	a := name("a")
	commas := strings.Repeat("a,", many-1) + "a"
	yields(t, "P1301", "["+commas+"]", of(api.NArray, again(a)...))
	yields(t, "P1301", "a("+commas+")", of(api.NCall, append([]api.Node{a}, again(a)...)...))
	parses(t, "P1301", "(function ("+commas+") {});", expr(function("", strings.Repeat("a ", many))))
	few := api.MaxSource/4 - 100
	parses(t, "P1301", "x = {"+strings.Repeat("a:a,", few)+"a:a};", expr(of(api.NAssign, name("x"), object(again(pair("a", a))[:few+1]...))))
}
