package printer

import (
	"strings"
	"testing"

	"understudy/api"
	"understudy/parse"
)

// layer is a node around another, and what its text has before and behind that.
type layer struct {
	around         func(api.Node) api.Node
	before, behind string
}

func expressionLayers() []layer {
	a := name("a")
	return []layer{
		{func(n api.Node) api.Node { return named(api.NUnary, "!", n) }, "(!", ")"},
		{func(n api.Node) api.Node { return of(api.NArray, n) }, "[", "]"},
		{func(n api.Node) api.Node { return of(api.NArray, a, n, a) }, "[a, ", ", a]"},
		{func(n api.Node) api.Node { return named(api.NMember, "b", n) }, "(", ".b)"},
		{func(n api.Node) api.Node { return of(api.NIndex, n, a) }, "(", "[a])"},
		{func(n api.Node) api.Node { return of(api.NCall, n, a) }, "(", "(a))"},
		{func(n api.Node) api.Node { return of(api.NNew, a, n) }, "(new a(", "))"},
		{func(n api.Node) api.Node { return named(api.NBinary, "+", n, a) }, "(", " + a)"},
		{func(n api.Node) api.Node { return of(api.NAssign, a, n) }, "(a = ", ")"},
		{func(n api.Node) api.Node { return of(api.NCond, a, n, a) }, "(a ? ", " : a)"},
		{func(n api.Node) api.Node { return of(api.NObject, of(api.NPair, n, a)) }, "({[", "]: a})"},
		{func(n api.Node) api.Node { return of(api.NFunc, of(api.SReturn, n)) }, "(function () { return ", "; })"},
		{func(n api.Node) api.Node {
			return of(api.NObject, named(api.NGet, "k", of(api.NFunc, of(api.SExpr, n))))
		}, `({get "k"() { `, "; }})"},
	}
}

func statementLayers() []layer {
	a, e := name("a"), of(api.SEmpty)
	return []layer{
		{func(n api.Node) api.Node { return of(api.SBlock, n) }, "{ ", " }"},
		{func(n api.Node) api.Node { return of(api.SBlock, e, n) }, "{ ; ", " }"},
		{func(n api.Node) api.Node { return of(api.SWhile, a, n) }, "while (a) ", ""},
		{func(n api.Node) api.Node { return of(api.SIf, a, n) }, "if (a) ", ""},
		{func(n api.Node) api.Node { return of(api.SIf, a, n, e) }, "if (a) ", " else ;"},
		{func(n api.Node) api.Node { return of(api.SIf, a, e, n) }, "if (a) ; else ", ""},
		{func(n api.Node) api.Node { return of(api.SIf, a, of(api.SWhile, a, n), e) }, "if (a) while (a) ", " else ;"},
		{func(n api.Node) api.Node {
			return of(api.SFunc, api.Node{Kind: api.NFunc, Text: "f", Kids: []api.Node{n}})
		}, "function f() { ", " }"},
		{func(n api.Node) api.Node {
			return api.Node{Kind: api.STry, Num: 2, Kids: []api.Node{of(api.SBlock, n), of(api.SBlock)}}
		}, "try { ", " } finally { }"},
	}
}

// nests checks a tree of many layers l, also around a core that is not right.
func nests(t *testing.T, l layer, depth int, wrap func(api.Node) api.Node, core api.Node, text, end string) {
	t.Helper()
	good, bad := core, api.Node{Kind: api.SProgram}
	for range depth {
		good, bad = l.around(good), l.around(bad)
	}
	if g, b := Right(wrap(good)), Right(wrap(bad)); !g || b {
		t.Errorf("P1401: %q, %d times: Right is %v, with a wrong core %v", l.before+l.behind, depth, g, b)
	}
	want := strings.Repeat(l.before, depth) + text + strings.Repeat(l.behind, depth) + end
	if Print(wrap(good)) != want || Print(wrap(bad)) != "" {
		t.Errorf("P1402: %q, %d times: a wrong text", l.before+l.behind, depth)
	}
	n, _, e := parse.Parse([]byte(want))
	if e != api.ErrDeep && e != api.ErrLong && (e != api.OK || !same(n, wrap(good))) {
		t.Errorf("P1403: %q, %d times: error %d", l.before+l.behind, depth, e)
	}
}

// There is no limit of depth for this package, and none of its work is done
// once for each layer above.
func TestDeepTrees(t *testing.T) {
	for _, depth := range []int{1, 10, 30, 50, 100, 1000, 50000} {
		for _, l := range expressionLayers() {
			nests(t, l, depth, prog, name("x"), "x", ";\n")
		}
		for _, l := range statementLayers() {
			nests(t, l, depth, single, of(api.SBreak), "break;", "\n")
		}
	}
	const deepest = 1000000
	nests(t, expressionLayers()[0], deepest, prog, name("x"), "x", ";\n")
	nests(t, statementLayers()[0], deepest, single, of(api.SBreak), "break;", "\n")
}

// many returns n copies of a node.
func many(n int, kid api.Node) []api.Node {
	list := make([]api.Node, n)
	for i := range list {
		list[i] = kid
	}
	return list
}

func TestWideTrees(t *testing.T) {
	const n = 200000
	a, s := name("a"), of(api.SEmpty)
	commas := strings.Repeat("a, ", n-1) + "a"
	f := api.Node{Kind: api.NFunc}
	for range n {
		f.Names = append(f.Names, "a")
	}
	pair := of(api.NPair, named(api.NString, "k"), a)
	judged(t, of(api.SProgram, many(n, s)...), true, strings.Repeat(";\n", n))
	judged(t, single(of(api.SBlock, many(n, s)...)), true, "{"+strings.Repeat(" ;", n)+" }\n")
	judged(t, prog(of(api.NArray, many(n, a)...)), true, "["+commas+"];\n")
	judged(t, prog(of(api.NCall, many(n, a)...)), true, "(a("+commas[3:]+"));\n")
	judged(t, prog(of(api.NNew, many(n, a)...)), true, "(new a("+commas[3:]+"));\n")
	judged(t, prog(of(api.NObject, many(n, pair)...)), true, "({"+strings.Repeat(`"k": a, `, n-1)+"\"k\": a});\n")
	judged(t, prog(f), true, "(function ("+commas+") { });\n")
	last := append(many(n, s), a)
	if Right(of(api.SProgram, last...)) || Right(single(of(api.SBlock, last...))) {
		t.Errorf("P1401: the last of many statements is none, and Right is true")
	}
}

// Lengths that no source can have are no matter of Right and Print.
func TestProgramsThatAreTooLong(t *testing.T) {
	long := strings.Repeat("a", 2*api.MaxSource)
	right(t, withVariable(long)...)
	right(t, prog(named(api.NMember, long, name("a"))))
	list := many(20, named(api.NString, strings.Repeat("\n", api.MaxUnits)))
	text := Print(prog(of(api.NArray, list...)))
	if _, _, e := parse.Parse([]byte(text)); e != api.ErrLong {
		t.Errorf("P1403: error %d for a text of %d bytes", e, len(text))
	}
}
