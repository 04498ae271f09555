package parse

import (
	"strconv"
	"strings"
	"testing"

	"understudy/api"
)

// How tightly an expression binds, line by line of the grammar.
const (
	bindsA = iota
	bindsC
	bindsO
	bindsN
	bindsE
	bindsR
	bindsP
	bindsM
	bindsU
	bindsX
	bindsNew // what may follow a `new`
	bindsY
)

// binds returns the line of the grammar that gives the node n.
func binds(n api.Node) int {
	switch n.Kind {
	case api.NAssign:
		return bindsA
	case api.NCond:
		return bindsC
	case api.NOr:
		return bindsO
	case api.NAnd:
		return bindsN
	case api.NBinary:
		for i, line := range signs() {
			for _, sign := range line {
				if sign == n.Text {
					return bindsO + i
				}
			}
		}
	case api.NUnary:
		return bindsU
	case api.NCall, api.NNew:
		return bindsX
	case api.NMember, api.NIndex:
		return min(max(binds(n.Kids[0]), bindsX), bindsNew)
	}
	return bindsY
}

// writer writes trees as the tokens of programs, with more parentheses than
// there must be where chance says so.
type writer struct {
	dice   dice
	tokens []string
}

func (w *writer) put(list string) { w.tokens = append(w.tokens, strings.Fields(list)...) }

func (w *writer) program(n api.Node) {
	for _, kid := range n.Kids {
		w.statement(kid)
	}
}

func (w *writer) block(list []api.Node) {
	w.put("{")
	for _, n := range list {
		w.statement(n)
	}
	w.put("}")
}

// maybe writes a sign and the expression that list has, if there is one.
func (w *writer) maybe(sign string, list []api.Node) {
	if len(list) == 1 {
		w.put(sign)
		w.expression(list[0], bindsA)
	}
}

func (w *writer) statement(n api.Node) {
	switch n.Kind {
	case api.SLet:
		w.put("let " + n.Text)
		w.maybe("=", n.Kids)
		w.put(";")
	case api.SConst:
		w.put("const " + n.Text)
		w.maybe("=", n.Kids)
		w.put(";")
	case api.SFunc:
		w.function("function", n.Kids[0])
	case api.SIf:
		w.put("if (")
		w.expression(n.Kids[0], bindsA)
		w.put(")")
		w.statement(n.Kids[1])
		if len(n.Kids) == 3 {
			w.put("else")
			w.statement(n.Kids[2])
		}
	case api.SWhile:
		w.put("while (")
		w.expression(n.Kids[0], bindsA)
		w.put(")")
		w.statement(n.Kids[1])
	case api.STry:
		w.attempt(n)
	case api.SBlock:
		w.block(n.Kids)
	default:
		w.simple(n)
	}
}

func (w *writer) simple(n api.Node) {
	switch n.Kind {
	case api.SReturn:
		w.put("return")
		w.maybe("", n.Kids)
	case api.SThrow:
		w.put("throw")
		w.maybe("", n.Kids)
	case api.SBreak:
		w.put("break")
	case api.SContinue:
		w.put("continue")
	case api.SExpr:
		from := len(w.tokens)
		w.expression(n.Kids[0], bindsA)
		if first := w.tokens[from]; first == "{" || first == "function" {
			w.tokens = append(w.tokens[:from], append([]string{"("}, w.tokens[from:]...)...)
			w.put(")")
		}
	}
	w.put(";")
}

func (w *writer) attempt(n api.Node) {
	w.put("try")
	w.block(n.Kids[0].Kids)
	for _, kid := range n.Kids[1:] {
		if kid.Kind == api.SCatch {
			w.put("catch ( " + kid.Text + " )")
			w.block(kid.Kids[0].Kids)
		} else {
			w.put("finally")
			w.block(kid.Kids)
		}
	}
}

func (w *writer) function(before string, n api.Node) {
	w.put(before + " " + n.Text + " ( " + strings.Join(n.Names, " , ") + " )")
	w.block(n.Kids)
}

// expression writes n where something that binds as tightly as least is due.
func (w *writer) expression(n api.Node, least int) {
	if binds(n) < least || w.dice.roll(12) == 0 {
		w.put("(")
		w.expression(n, bindsA)
		w.put(")")
		return
	}
	switch n.Kind {
	case api.NAssign:
		w.expression(n.Kids[0], bindsX)
		w.put("=")
		w.expression(n.Kids[1], bindsA)
	case api.NCond:
		w.expression(n.Kids[0], bindsO)
		w.put("?")
		w.expression(n.Kids[1], bindsA)
		w.put(":")
		w.expression(n.Kids[2], bindsA)
	case api.NOr, api.NAnd, api.NBinary:
		w.expression(n.Kids[0], binds(n))
		w.put(map[int]string{api.NOr: "||", api.NAnd: "&&", api.NBinary: n.Text}[n.Kind])
		w.expression(n.Kids[1], binds(n)+1)
	case api.NUnary:
		w.put(n.Text)
		w.expression(n.Kids[0], bindsU)
	default:
		w.access(n, least)
	}
}

// access writes what X of the grammar gives, but for what Y gives.
func (w *writer) access(n api.Node, least int) {
	least = min(max(least, bindsX), bindsNew)
	switch n.Kind {
	case api.NMember:
		w.expression(n.Kids[0], least)
		w.put(". " + n.Text)
	case api.NIndex:
		w.expression(n.Kids[0], least)
		w.put("[")
		w.expression(n.Kids[1], bindsA)
		w.put("]")
	case api.NCall:
		w.expression(n.Kids[0], bindsX)
		w.list("(", n.Kids[1:], ")")
	case api.NNew:
		w.put("new")
		w.expression(n.Kids[0], bindsNew)
		w.list("(", n.Kids[1:], ")")
	default:
		w.primary(n)
	}
}

func (w *writer) list(open string, list []api.Node, end string) {
	w.put(open)
	for i, n := range list {
		if i > 0 {
			w.put(",")
		}
		w.element(n)
	}
	w.put(end)
}

// element writes an element of a list of expressions or of an object.
func (w *writer) element(n api.Node) {
	switch n.Kind {
	case api.NGet, api.NSet:
		w.put(map[int]string{api.NGet: "get", api.NSet: "set"}[n.Kind])
		w.key(n.Text)
		w.function("", n.Kids[0])
	case api.NPair:
		if n.Kids[0].Kind == api.NString && w.dice.roll(8) > 0 {
			w.key(n.Kids[0].Text)
		} else {
			w.put("[")
			w.expression(n.Kids[0], bindsA)
			w.put("]")
		}
		w.put(":")
		w.expression(n.Kids[1], bindsA)
	default:
		w.expression(n, bindsA)
	}
}

// quote returns s, which has none but simple characters, as a token.
func (w *writer) quote(s string) string {
	q := []string{"'", `"`}[w.dice.roll(2)]
	return q + s + q
}

// key writes the key s, as a string or as it is.
func (w *writer) key(s string) {
	if s == "" || s == "+" || w.dice.roll(3) == 0 {
		s = w.quote(s)
	}
	w.put(s)
}

func (w *writer) primary(n api.Node) {
	switch n.Kind {
	case api.NNumber:
		w.put(strconv.Itoa(n.Num))
	case api.NString:
		w.put(w.quote(n.Text))
	case api.NName:
		w.put(n.Text)
	case api.NArray:
		w.list("[", n.Kids, "]")
	case api.NObject:
		w.list("{", n.Kids, "}")
	case api.NFunc:
		w.function("function", n)
	case api.NTrue:
		w.put("true")
	case api.NFalse:
		w.put("false")
	case api.NNull:
		w.put("null")
	case api.NUndef:
		w.put("undefined")
	case api.NThis:
		w.put("this")
	}
}

// source joins the tokens, with white space and comments by chance.
func (w *writer) source() string {
	gaps := []string{" ", " ", "\n", "\t", " /* ; ( */ ", " // } else\n"}
	var b strings.Builder
	for i, token := range w.tokens {
		alone := strings.Contains("(){}[];,:?", token[:1]) || i > 0 && strings.Contains("(){}[];,:?", w.tokens[i-1][:1])
		if !alone || w.dice.roll(4) == 0 {
			b.WriteString(gaps[w.dice.roll(len(gaps))])
		}
		b.WriteString(token)
	}
	return b.String()
}

// grower makes trees by chance.
type grower struct{ dice dice }

func (g *grower) one(list ...string) string { return list[g.dice.roll(len(list))] }

func (g *grower) id() string { return g.one("a", "b", "get", "set", "$", "x1", "of") }

func (g *grower) keyText() string {
	return g.one("a", "get", "set", "if", "null", "7", "10", "", "+", "true", "$_")
}

func (g *grower) several(most, size int, make func(int) api.Node) []api.Node {
	var all []api.Node
	for range g.dice.roll(most + 1) {
		all = append(all, make(size))
	}
	return all
}

func (g *grower) program() api.Node {
	return of(api.SProgram, g.several(4, 4, g.statement)...)
}

func (g *grower) block(size int) api.Node {
	return of(api.SBlock, g.several(3, size, g.statement)...)
}

func (g *grower) function(id string, most, size int) api.Node {
	f := api.Node{Kind: api.NFunc, Text: id}
	for range g.dice.roll(most + 1) {
		f.Names = append(f.Names, g.id())
	}
	f.Kids = g.several(2, size, g.statement)
	return f
}

func (g *grower) statement(size int) api.Node {
	if size == 0 {
		return of([]int{api.SBreak, api.SContinue, api.SEmpty, api.SReturn}[g.dice.roll(4)])
	}
	size--
	switch g.dice.roll(12) {
	case 0:
		return with(api.SLet, g.id(), g.several(1, size, g.expression)...)
	case 1:
		return with(api.SConst, g.id(), g.expression(size))
	case 2:
		return of(api.SFunc, g.function(g.id(), 3, size))
	case 3:
		return of(api.SIf, g.expression(size), g.statement(size))
	case 4:
		then := g.statement(size)
		if lacksElse(then) {
			then = of(api.SBlock, then)
		}
		return of(api.SIf, g.expression(size), then, g.statement(size))
	case 5:
		return of(api.SWhile, g.expression(size), g.statement(size))
	case 6:
		return of(api.SReturn, g.several(1, size, g.expression)...)
	case 7:
		return of(api.SThrow, g.expression(size))
	case 8:
		return g.attempt(size)
	case 9:
		return g.block(size)
	}
	return expr(g.expression(size))
}

// lacksElse reports whether an `else` behind n would belong to an `if` in it.
func lacksElse(n api.Node) bool {
	switch n.Kind {
	case api.SIf:
		return len(n.Kids) == 2 || lacksElse(n.Kids[2])
	case api.SWhile:
		return lacksElse(n.Kids[1])
	}
	return false
}

func (g *grower) attempt(size int) api.Node {
	n := api.Node{Kind: api.STry, Num: 1 + g.dice.roll(3), Kids: []api.Node{g.block(size)}}
	if n.Num&1 != 0 {
		n.Kids = append(n.Kids, with(api.SCatch, g.id(), g.block(size)))
	}
	if n.Num&2 != 0 {
		n.Kids = append(n.Kids, g.block(size))
	}
	return n
}

func (g *grower) place(size int) api.Node {
	if g.dice.roll(2) == 0 {
		return with(api.NMember, g.one("a", "if", "get", "this", "b2"), g.expression(size))
	}
	return of(api.NIndex, g.expression(size), g.expression(size))
}

func (g *grower) expression(size int) api.Node {
	if size == 0 {
		return g.leaf()
	}
	size--
	switch g.dice.roll(12) {
	case 0:
		return of(api.NArray, g.several(3, size, g.expression)...)
	case 1:
		return of(api.NObject, g.several(3, size, g.element)...)
	case 2:
		return g.function(g.one("", g.id()), 2, size)
	case 3, 4:
		return g.place(size)
	case 5:
		return of(api.NCall, append([]api.Node{g.expression(size)}, g.several(2, size, g.expression)...)...)
	case 6:
		return of(api.NNew, append([]api.Node{g.expression(size)}, g.several(2, size, g.expression)...)...)
	case 7:
		if sign := g.one("!", "-", "typeof", "delete"); sign != "delete" {
			return unary(sign, g.expression(size))
		}
		return unary("delete", g.place(size))
	case 8:
		return of(api.NCond, g.expression(size), g.expression(size), g.expression(size))
	case 9:
		target := name(g.id())
		if g.dice.roll(2) == 0 {
			target = g.place(size)
		}
		return of(api.NAssign, target, g.expression(size))
	}
	line := signs()[g.dice.roll(len(signs()))]
	return joined(g.one(line...), g.expression(size), g.expression(size))
}

func (g *grower) element(size int) api.Node {
	switch g.dice.roll(4) {
	case 0:
		return with(api.NGet, g.keyText(), g.function("", 0, size))
	case 1:
		f := g.function("", 0, size)
		f.Names = []string{g.id()}
		return with(api.NSet, g.keyText(), f)
	case 2:
		return of(api.NPair, g.expression(size), g.expression(size))
	}
	return pair(g.keyText(), g.expression(size))
}

func (g *grower) leaf() api.Node {
	switch g.dice.roll(5) {
	case 0:
		return number(g.dice.roll(20))
	case 1:
		return text(g.one("", "a", "in", "+"))
	case 2:
		return of([]int{api.NTrue, api.NFalse, api.NNull, api.NUndef, api.NThis}[g.dice.roll(5)])
	}
	return name(g.id())
}

func TestTreesMadeByChance(t *testing.T) {
	for seed := range 20000 {
		g := grower{dice: dice(seed)}
		tree := g.program()
		w := writer{dice: g.dice}
		w.program(tree)
		parses(t, "P1302", w.source(), tree.Kids...)
		if t.Failed() {
			return
		}
	}
}
