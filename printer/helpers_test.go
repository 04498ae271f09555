package printer

import (
	"fmt"
	"slices"
	"testing"

	"understudy/api"
	"understudy/parse"
)

// dice is a row of numbers that is always the same.
type dice uint32

func (d *dice) roll(n int) int {
	*d = *d*1664525 + 1013904223
	return int(*d>>8) % n
}

// same compares trees. Nil and empty lists are the same.
func same(a, b api.Node) bool {
	return a.Kind == b.Kind && a.Num == b.Num && a.Text == b.Text &&
		slices.Equal(a.Names, b.Names) && slices.EqualFunc(a.Kids, b.Kids, same)
}

func clone(n api.Node) api.Node {
	n.Names = slices.Clone(n.Names)
	n.Kids = slices.Clone(n.Kids)
	for i, kid := range n.Kids {
		n.Kids[i] = clone(kid)
	}
	return n
}

// all returns all nodes of a tree, itself first.
func all(n *api.Node) []*api.Node {
	list := []*api.Node{n}
	for i := range n.Kids {
		list = append(list, all(&n.Kids[i])...)
	}
	return list
}

// tree returns the tree of a program.
func tree(t *testing.T, source string) api.Node {
	t.Helper()
	n, at, e := parse.Parse([]byte(source))
	if e != api.OK {
		t.Fatalf("Parse(%q): error %d at %d", source, e, at)
	}
	return n
}

// first returns the node of the first statement of a program.
func first(t *testing.T, source string) api.Node {
	t.Helper()
	return tree(t, source).Kids[0]
}

// inside returns the expression that a program consists of.
func inside(t *testing.T, source string) api.Node {
	t.Helper()
	return first(t, source+";").Kids[0]
}

func of(kind int, kids ...api.Node) api.Node { return api.Node{Kind: kind, Kids: kids} }

func named(kind int, text string, kids ...api.Node) api.Node {
	return api.Node{Kind: kind, Text: text, Kids: kids}
}

// single returns the program that consists of a statement.
func single(n api.Node) api.Node { return of(api.SProgram, n) }

// prog returns the program that consists of an expression.
func prog(n api.Node) api.Node { return single(of(api.SExpr, n)) }

// judged checks what Right and Print make of n, of which want is the text if it
// is right.
func judged(t *testing.T, n api.Node, right bool, want string) {
	t.Helper()
	if got := Right(n); got != right {
		t.Errorf("P1401: Right(%.300s) = %v", fmt.Sprint(n), got)
	}
	if !right {
		want = ""
	}
	if got := Print(n); got != want {
		t.Errorf("P1402: Print(%.300s) = %.300q, want %.300q", fmt.Sprint(n), got, want)
	}
}

func wrong(t *testing.T, list ...api.Node) {
	t.Helper()
	for _, n := range list {
		judged(t, n, false, "")
	}
}

func right(t *testing.T, list ...api.Node) {
	t.Helper()
	for _, n := range list {
		judged(t, n, true, plain(n))
	}
}

// samples are programs that together have every form of every node.
func samples() []string {
	return []string{
		"", ";", "let x;", "let x = 1;", "const x = y;", "function f() {}", "function f(a, b) { a; ; }",
		"a;", "if (a) b;", "if (a) b; else c;", "if (a) while (b) if (c) d; else e; else if (f) g;",
		"while (a) { b; }", "while (a) while (b) ;", "return;", "return a;", "throw a;",
		"try {} catch (e) {}", "try { a; } finally {}", "try {} catch (e) { b; } finally { c; }",
		"{ }", "{ a; { } }", "break;", "continue;", "a; b; c;",
		"0;", "'s';", "true;", "false;", "null;", "undefined;", "this;", "[];", "[a];", "[a, [b], c];",
		"({});", "({a: 1});", "({[a]: 1, 'b': 2, [c + d]: e});", "({['a']: {}});", "({get a() {}});",
		"({get a() { b; c; }, set d(e) { f; }, g: h});", "({set a(b) {}});",
		"(function () {});", "(function f(a) { b; });", "(function (a, b, c) {});", "a.b;", "a.if;", "a.b.c;",
		"a[b];", "a[b][c];", "a();", "a(b, c);", "new a();", "new a(b, c);", "new a.b(c);",
		"!a;", "-a;", "typeof a;", "delete a.b;", "delete a[b];", "!-typeof delete a.b;",
		"a === b;", "a !== b;", "a < b;", "a > b;", "a <= b;", "a >= b;", "a in b;", "a + b;", "a - b;",
		"a * b;", "a / b;", "a % b;", "a && b;", "a || b;", "a ? b : c;", "a = b;", "a.b = c;", "a[b] = c = d;",
	}
}
