package printer

import (
	"strings"
	"testing"

	"understudy/api"
)

// prints checks the canonical text of a program, and that it is its own.
func prints(t *testing.T, source, want string) {
	t.Helper()
	n := tree(t, source)
	judged(t, n, true, want)
	back := tree(t, want)
	if !same(n, back) {
		t.Errorf("P1403: %q has another tree than %q", want, source)
	}
	if got := Print(back); got != want {
		t.Errorf("P1403: Print of the tree of %q = %q", want, got)
	}
}

// shows checks the canonical text of an expression.
func shows(t *testing.T, source, want string) {
	t.Helper()
	prints(t, "("+source+");", want+";\n")
	prints(t, "let x = "+source+";", "let x = "+want+";\n")
}

func TestExample(t *testing.T) { prints(t, "a.b;", "(a.b);\n") }

func TestLines(t *testing.T) {
	prints(t, "", "")
	prints(t, " // nothing\n", "")
	prints(t, "a;b\n;c;", "a;\nb;\nc;\n")
	prints(t, "{a;b;}{}c;", "{ a; b; }\n{ }\nc;\n")
	prints(t, "if (a)\nb;\nelse\nc;", "if (a) b; else c;\n")
	prints(t, "function f() {\n\ta;\n\tb;\n}\nf();", "function f() { a; b; }\n(f());\n")
}

func TestStatements(t *testing.T) {
	prints(t, "let x=1;", "let x = 1;\n")
	prints(t, "let x ;", "let x;\n")
	prints(t, "const x=1;", "const x = 1;\n")
	prints(t, "function f(){}", "function f() { }\n")
	prints(t, "function f(a){}", "function f(a) { }\n")
	prints(t, "function f(a,b,c){a;;}", "function f(a, b, c) { a; ; }\n")
	prints(t, "if(a)b;", "if (a) b;\n")
	prints(t, "if(a){}", "if (a) { }\n")
	prints(t, "if(a)b;else c;", "if (a) b; else c;\n")
	prints(t, "if(a){}else{}", "if (a) { } else { }\n")
	prints(t, "if(a);else if(b);else;", "if (a) ; else if (b) ; else ;\n")
	prints(t, "if(a){if(b);}else;", "if (a) { if (b) ; } else ;\n")
	prints(t, "while(a);", "while (a) ;\n")
	prints(t, "while(a){b;}", "while (a) { b; }\n")
	prints(t, "while(a=b)while(c)if(d)e;", "while ((a = b)) while (c) if (d) e;\n")
	prints(t, "return;", "return;\n")
	prints(t, "return a;", "return a;\n")
	prints(t, "return(a);", "return a;\n")
	prints(t, "throw a;", "throw a;\n")
	prints(t, "throw[a];", "throw [a];\n")
	prints(t, "break;", "break;\n")
	prints(t, "continue;", "continue;\n")
	prints(t, " ; ", ";\n")
	prints(t, "a;", "a;\n")
	prints(t, "(a);", "a;\n")
	prints(t, "let get;get;", "let get;\nget;\n")
}

func TestTries(t *testing.T) {
	prints(t, "try{}catch(e){}", "try { } catch (e) { }\n")
	prints(t, "try{}finally{}", "try { } finally { }\n")
	prints(t, "try{}catch(e){}finally{}", "try { } catch (e) { } finally { }\n")
	prints(t, "try{a;}catch(e){b;c;}finally{d;}", "try { a; } catch (e) { b; c; } finally { d; }\n")
	prints(t, "try{try{}finally{}}finally{}", "try { try { } finally { } } finally { }\n")
}

func TestBlocks(t *testing.T) {
	prints(t, "{}", "{ }\n")
	prints(t, "{{}}", "{ { } }\n")
	prints(t, "{;}", "{ ; }\n")
	prints(t, "{a;b;}", "{ a; b; }\n")
	prints(t, "{let x=1;function f(){}}", "{ let x = 1; function f() { } }\n")
}

func TestExpressionsWithoutParentheses(t *testing.T) {
	for _, s := range strings.Fields("0 7 10 9007199254740991 a $ _1 get set of true false null undefined this [] [[]]") {
		shows(t, s, s)
		shows(t, "("+s+")", s)
	}
	shows(t, "[a,1,'s']", `[a, 1, "s"]`)
	shows(t, "[(a),[b,[c]]]", "[a, [b, [c]]]")
	shows(t, "[a+b,c]", "[(a + b), c]")
}

func TestStrings(t *testing.T) {
	shows(t, "''", `""`)
	shows(t, "'a b'", `"a b"`)
	shows(t, `'"'`, `"\u0022"`)
	shows(t, `"'"`, `"'"`)
	shows(t, `'\n\t\\\u0000\u007f~'`, `"\u000a\u0009\u005c\u0000\u007f~"`)
	shows(t, "'é\U0001F600'", `"\u00e9\ud83d\ude00"`)
	shows(t, `'\uDE00\uD83D'`, `"\ude00\ud83d"`)
	shows(t, `'#$@ ASPX { }'`, `"#$@ ASPX { }"`)
}

func TestObjects(t *testing.T) {
	shows(t, "{}", "({})")
	shows(t, "{a:1}", `({"a": 1})`)
	shows(t, "{a:1,'b c':2,if:3,0:4,'':5}", `({"a": 1, "b c": 2, "if": 3, "0": 4, "": 5})`)
	shows(t, "{'\"é':1}", `({"\u0022\u00e9": 1})`)
	shows(t, "{['a']:1}", `({"a": 1})`)
	shows(t, "{[a]:1,[1]:2,[a+b]:3}", `({[a]: 1, [1]: 2, [(a + b)]: 3})`)
	shows(t, "{[['a']]:1}", `({[["a"]]: 1})`)
	shows(t, "{get a(){}}", `({get "a"() { }})`)
	shows(t, "{get 'b c'(){return 1;}}", `({get "b c"() { return 1; }})`)
	shows(t, "{set a(b){}}", `({set "a"(b) { }})`)
	shows(t, "{set 7(b){b;;}}", `({set "7"(b) { b; ; }})`)
	shows(t, "{get get(){},set set(get){},get:set,set:get}", `({get "get"() { }, set "set"(get) { }, "get": set, "set": get})`)
	shows(t, "{a:{b:{}}}", `({"a": ({"b": ({})})})`)
	shows(t, "{get '\\n'(){}}", `({get "\u000a"() { }})`)
}

func TestFunctions(t *testing.T) {
	shows(t, "function(){}", "(function () { })")
	shows(t, "function f(){}", "(function f() { })")
	shows(t, "function(a){}", "(function (a) { })")
	shows(t, "function f(a,b){a;b;}", "(function f(a, b) { a; b; })")
	shows(t, "function(){return function(){};}", "(function () { return (function () { }); })")
	shows(t, "function(){function g(){}}", "(function () { function g() { } })")
}

func TestAccesses(t *testing.T) {
	shows(t, "a.b", "(a.b)")
	shows(t, "a.b.c", "((a.b).c)")
	shows(t, "a.if", "(a.if)")
	shows(t, "1 .a", "(1.a)")
	shows(t, "a[b]", "(a[b])")
	shows(t, "a[b][c.d]", "((a[b])[(c.d)])")
	shows(t, "[a][b]", "([a][b])")
	shows(t, "a()", "(a())")
	shows(t, "a(b)", "(a(b))")
	shows(t, "a(b,c,d)", "(a(b, c, d))")
	shows(t, "a(b)(c)", "((a(b))(c))")
	shows(t, "new a()", "(new a())")
	shows(t, "new a(b)", "(new a(b))")
	shows(t, "new a.b(c,d)", "(new (a.b)(c, d))")
	shows(t, "new (a())()", "(new (a())())")
	shows(t, "new a()()", "((new a())())")
	shows(t, "new function(){}()", "(new (function () { })())")
	shows(t, "function(){}()", "((function () { })())")
	shows(t, "''.a", `("".a)`)
}

func TestOperators(t *testing.T) {
	shows(t, "! a", "(!a)")
	shows(t, "- a", "(-a)")
	shows(t, "--a", "(-(-a))")
	shows(t, "-1", "(-1)")
	shows(t, "typeof(a)", "(typeof a)")
	shows(t, "typeof typeof[]", "(typeof (typeof []))")
	shows(t, "delete a.b", "(delete (a.b))")
	shows(t, "delete a[b]", "(delete (a[b]))")
	for _, sign := range strings.Fields("=== !== < > <= >= in + - * / % && ||") {
		shows(t, "a "+sign+"\nb", "(a "+sign+" b)")
		shows(t, "a "+sign+" b "+sign+" c", "((a "+sign+" b) "+sign+" c)")
		shows(t, "a "+sign+" (b "+sign+" c)", "(a "+sign+" (b "+sign+" c))")
	}
	shows(t, "a?b:c", "(a ? b : c)")
	shows(t, "a?b:c?d:e", "(a ? b : (c ? d : e))")
	shows(t, "a=b", "(a = b)")
	shows(t, "a.b=c=d", "((a.b) = (c = d))")
	shows(t, "a[b]=c", "((a[b]) = c)")
	shows(t, "a*b+c<d&&e||f", "(((((a * b) + c) < d) && e) || f)")
}

// The texts of nodes are not read as parts of the text around them.
func TestTextsThatLookLikeLayouts(t *testing.T) {
	for _, s := range []string{"$", "A", "S", "X", "$$", "A$", "SPBCATMDFGH", "$G"} {
		n := named(api.NAssign, "", named(api.NMember, s, named(api.NName, s)), named(api.NString, s))
		want := "((" + s + "." + s + `) = "` + s + "\");\n"
		judged(t, prog(n), true, want)
		f := api.Node{Kind: api.NFunc, Text: s, Names: []string{s, s}}
		judged(t, single(of(api.SFunc, f)), true, "function "+s+"("+s+", "+s+") { }\n")
		judged(t, single(named(api.SLet, s)), true, "let "+s+";\n")
	}
}
