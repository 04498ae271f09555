package parse

import "understudy/api"

// What Num of an STry says that it has.
const (
	hasCatch   = 1
	hasFinally = 2
)

// statements parses statements up to where end reports true.
func (p *parser) statements(end func() bool) []api.Node {
	var all []api.Node
	for !end() && !p.failed() {
		all = append(all, p.statement())
	}
	return all
}

func (p *parser) block() api.Node {
	p.needs("{")
	all := p.statements(func() bool { return p.sees("}") })
	p.needs("}")
	return node(api.SBlock, all...)
}

// statement parses S of the grammar.
func (p *parser) statement() api.Node {
	if !p.enter() {
		return api.Node{}
	}
	defer p.leave()
	switch {
	case p.sees("{"):
		return p.block()
	case p.takes("function"):
		return node(api.SFunc, p.function(p.name()))
	case p.takes("if"):
		return p.choice()
	case p.takes("while"):
		return node(api.SWhile, p.parenthesized(), p.statement())
	case p.takes("try"):
		return p.attempt()
	}
	n := p.simple()
	p.needs(";")
	return n
}

// simple parses a statement that ends with a semicolon, up to there.
func (p *parser) simple() api.Node {
	switch {
	case p.sees(";"):
		return node(api.SEmpty)
	case p.takes("let"):
		return p.variable()
	case p.takes("const"):
		return p.constant()
	case p.takes("return"):
		if p.sees(";") {
			return node(api.SReturn)
		}
		return node(api.SReturn, p.expression())
	case p.takes("throw"):
		return node(api.SThrow, p.expression())
	case p.takes("break"):
		return node(api.SBreak)
	case p.takes("continue"):
		return node(api.SContinue)
	}
	return node(api.SExpr, p.expression())
}

func (p *parser) variable() api.Node {
	n := api.Node{Kind: api.SLet, Text: p.name()}
	if p.takes("=") {
		n.Kids = []api.Node{p.expression()}
	}
	return n
}

func (p *parser) constant() api.Node {
	n := api.Node{Kind: api.SConst, Text: p.name()}
	p.needs("=")
	n.Kids = []api.Node{p.expression()}
	return n
}

// parenthesized parses ( A ) of the grammar.
func (p *parser) parenthesized() api.Node {
	p.needs("(")
	n := p.expression()
	p.needs(")")
	return n
}

// choice parses what follows an `if`.
func (p *parser) choice() api.Node {
	n := node(api.SIf, p.parenthesized(), p.statement())
	if p.takes("else") {
		n.Kids = append(n.Kids, p.statement())
	}
	return n
}

// attempt parses what follows a `try`.
func (p *parser) attempt() api.Node {
	n := node(api.STry, p.block())
	if p.takes("catch") {
		n.Num |= hasCatch
		n.Kids = append(n.Kids, p.handler())
	}
	if p.takes("finally") {
		n.Num |= hasFinally
		n.Kids = append(n.Kids, p.block())
	}
	if n.Num == 0 {
		p.fail(api.ErrSyntax)
	}
	return n
}

// handler parses what follows a `catch`.
func (p *parser) handler() api.Node {
	p.needs("(")
	n := api.Node{Kind: api.SCatch, Text: p.name()}
	p.needs(")")
	n.Kids = []api.Node{p.block()}
	return n
}

// function parses what follows the name of a function: F of the grammar.
func (p *parser) function(name string) api.Node {
	p.needs("(")
	return api.Node{
		Kind:  api.NFunc,
		Text:  name,
		Names: list(p, ")", p.name),
		Kids:  p.block().Kids,
	}
}
