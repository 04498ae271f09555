package eval

import (
	"fmt"
	"runtime/debug"
	"strings"
	"testing"

	"understudy/api"
)

func of(kind int, kids ...api.Node) api.Node { return api.Node{Kind: kind, Kids: kids} }

func named(kind int, text string, kids ...api.Node) api.Node {
	return api.Node{Kind: kind, Text: text, Kids: kids}
}

func digit(n int) api.Node { return api.Node{Kind: api.NNumber, Num: n} }

func program(kids ...api.Node) api.Node { return of(api.SProgram, kids...) }

func single(n api.Node) api.Node { return program(of(api.SExpr, n)) }

// tower puts levels around n.
func tower(levels int, n api.Node, around func(api.Node) api.Node) api.Node {
	for range levels {
		n = around(n)
	}
	return n
}

// TestDeepTrees: they may be deeper than calls can be, here with a small stack.
func TestDeepTrees(t *testing.T) {
	defer debug.SetMaxStack(debug.SetMaxStack(1 << 20))
	const levels = 30000
	one, a := digit(1), named(api.NName, "a")
	block := func(kids ...api.Node) api.Node { return of(api.SBlock, kids...) }
	statements := func(n api.Node, around func(api.Node) api.Node) api.Node { return program(tower(levels, n, around)) }
	expressions := func(n api.Node, around func(api.Node) api.Node) api.Node { return single(tower(levels, n, around)) }
	lone := of(api.SExpr, one)
	for what, x := range map[string]struct {
		n     api.Node
		want  string
		steps int
	}{
		"minus":    {expressions(one, func(n api.Node) api.Node { return named(api.NUnary, "-", n) }), "1", levels + 2},
		"typeof":   {expressions(one, func(n api.Node) api.Node { return named(api.NUnary, "typeof", n) }), `"string"`, levels + 2},
		"left":     {expressions(one, func(n api.Node) api.Node { return named(api.NBinary, "+", n, one) }), fmt.Sprint(levels + 1), 2*levels + 2},
		"right":    {expressions(one, func(n api.Node) api.Node { return named(api.NBinary, "+", one, n) }), fmt.Sprint(levels + 1), 2*levels + 2},
		"and":      {expressions(one, func(n api.Node) api.Node { return of(api.NAnd, one, n) }), "1", 2*levels + 2},
		"or":       {expressions(one, func(n api.Node) api.Node { return of(api.NOr, n, a) }), "1", levels + 2},
		"cond":     {expressions(one, func(n api.Node) api.Node { return of(api.NCond, n, one, a) }), "1", 2*levels + 2},
		"array":    {single(named(api.NUnary, "typeof", tower(levels, one, func(n api.Node) api.Node { return of(api.NArray, n) }))), "NoRoom", 0},
		"call":     {expressions(named(api.NName, "print"), func(n api.Node) api.Node { return of(api.NCall, n) }), "threw TypeError", levels + 3},
		"argument": {expressions(one, func(n api.Node) api.Node { return of(api.NCall, named(api.NName, "print"), n) }), "undefined", 3*levels + 2},
		"new":      {expressions(one, func(n api.Node) api.Node { return of(api.NNew, n) }), "threw TypeError", levels + 2},
		"member":   {expressions(one, func(n api.Node) api.Node { return named(api.NMember, "a", n) }), "threw TypeError", levels + 2},
		"index":    {expressions(one, func(n api.Node) api.Node { return of(api.NIndex, n, one) }), "threw TypeError", levels + 3},
		"method":   {expressions(one, func(n api.Node) api.Node { return of(api.NCall, named(api.NMember, "a", n)) }), "threw TypeError", levels + 2},
		"assign":   {expressions(one, func(n api.Node) api.Node { return of(api.NAssign, named(api.NName, "b"), n) }), "threw ReferenceError", levels + 2},
		"block":    {statements(lone, func(n api.Node) api.Node { return block(n) }), "1", levels + 2},
		"if":       {statements(lone, func(n api.Node) api.Node { return of(api.SIf, one, n) }), "1", 2*levels + 2},
		"while":    {statements(of(api.SExpr, a), func(n api.Node) api.Node { return of(api.SWhile, one, n) }), "threw ReferenceError", 2*levels + 2},
		"loops":    {statements(of(api.SBreak), func(n api.Node) api.Node { return of(api.SWhile, one, block(n, of(api.SBreak))) }), "undefined", 4 * levels},
		"finally": {statements(of(api.SThrow, one), func(n api.Node) api.Node {
			return api.Node{Kind: api.STry, Num: 2, Kids: []api.Node{block(n), block(of(api.SEmpty))}}
		}), "threw 1", 2*levels + 2},
		"catch": {statements(of(api.SThrow, one), func(n api.Node) api.Node {
			return api.Node{Kind: api.STry, Num: 1, Kids: []api.Node{block(n), named(api.SCatch, "a", block(of(api.SThrow, a)))}}
		}), "threw 1", 3*levels + 2},
		"function": {expressions(one, func(n api.Node) api.Node { return of(api.NFunc, of(api.SExpr, n)) }), "function", 2},
	} {
		m := machine{New(api.Bounds{Fuel: plenty().Fuel, Room: 100, Deep: 10}), t}
		if got := m.tell(m.Run(x.n)); got != x.want {
			t.Errorf("P2005: deep %s: %s, want %s", what, got, x.want)
		}
		if x.steps != 0 && m.spent() != x.steps {
			t.Errorf("P2005: deep %s: %d steps, want %d", what, m.spent(), x.steps)
		}
	}
}

// TestFunctionsOfADeepTree have numbers from the outside to the inside.
func TestFunctionsOfADeepTree(t *testing.T) {
	const levels = 30000
	m := fresh(t)
	n := tower(levels, of(api.NFunc), func(n api.Node) api.Node { return of(api.NFunc, of(api.SReturn, n)) })
	f := m.Run(single(of(api.NCall, of(api.NCall, n)))).Value
	if x := m.thing(f); x.N != 2 || len(m.functions) != levels+1 {
		t.Errorf("P2003: the function is %+v of %d", x, len(m.functions))
	}
}

// TestLongPrograms: many statements, elements, arguments, parts and names.
func TestLongPrograms(t *testing.T) {
	const many = 3000
	list := strings.TrimSuffix(strings.Repeat("a, ", many), ", ")
	var names, parts, lets []string
	for i := range many {
		names, parts, lets = append(names, fmt.Sprint("a", i)), append(parts, fmt.Sprintf("a%d: %d", i, i)), append(lets, fmt.Sprintf("let a%d = %d;", i, i))
	}
	gives(t, "P2005", strings.Join([]string{
		"let a = 5; [" + list + "].length; => 3000",
		"let a = 5; (function (" + strings.Join(names, ", ") + ") { return a2999; })(" + list + "); => 5",
		"let a = 5; (function (" + strings.Join(names, ", ") + ") { return a2999; })(a); => undefined",
		"Object.keys({" + strings.Join(parts, ", ") + "}).length; => 3000",
		strings.Join(lets, " ") + " a0 + a2999; => 2999",
		strings.Repeat(";", many) + " 1; => 1",
		strings.Repeat("{ ", 40) + strings.Join(lets, " ") + strings.Repeat(" }", 40) + " 7; => 7",
	}, "\n"))
}
