package parse

import (
	"understudy/api"
	"understudy/numbers"
)

// levels are the binary operators: each text has those of one line of the
// grammar, which bind tighter than those of the texts before it.
var levels = [...]string{"||", "&&", "=== !==", "< > <= >= in", "+ -", "* / %"}

// prefixes are the unary operators.
const prefixes = "! - typeof delete"

// expression parses A of the grammar.
func (p *parser) expression() api.Node {
	if !p.enter() {
		return api.Node{}
	}
	defer p.leave()
	target := p.conditional()
	if !p.sees("=") {
		return target
	}
	if target.Kind != api.NName && !isMember(target) {
		p.fail(api.ErrSyntax)
	}
	p.needs("=")
	return node(api.NAssign, target, p.expression())
}

// conditional parses C of the grammar.
func (p *parser) conditional() api.Node {
	test := p.binary(0)
	if !p.takes("?") {
		return test
	}
	then := p.expression()
	p.needs(":")
	return node(api.NCond, test, then, p.expression())
}

// binary parses operands and the operators of levels from level on between them.
func (p *parser) binary(level int) api.Node {
	if level == len(levels) {
		return p.unary()
	}
	left := p.binary(level + 1)
	for p.seesOneOf(levels[level]) {
		sign := p.take().Text
		left = operation(sign, left, p.binary(level+1))
	}
	return left
}

func operation(sign string, left, right api.Node) api.Node {
	switch sign {
	case "||":
		return node(api.NOr, left, right)
	case "&&":
		return node(api.NAnd, left, right)
	}
	return api.Node{Kind: api.NBinary, Text: sign, Kids: []api.Node{left, right}}
}

// unary parses U of the grammar.
func (p *parser) unary() api.Node {
	if !p.enter() {
		return api.Node{}
	}
	defer p.leave()
	if !p.seesOneOf(prefixes) {
		return p.chain()
	}
	sign := p.take().Text
	operand := p.unary()
	if sign == "delete" && !isMember(operand) {
		p.fail(api.ErrSyntax)
	}
	return api.Node{Kind: api.NUnary, Text: sign, Kids: []api.Node{operand}}
}

// chain parses X of the grammar.
func (p *parser) chain() api.Node {
	n := p.members(p.base())
	for p.sees("(") {
		n = p.members(p.called(api.NCall, n))
	}
	return n
}

// base parses what X of the grammar begins with.
func (p *parser) base() api.Node {
	if !p.takes("new") {
		return p.primary()
	}
	return p.called(api.NNew, p.members(p.primary()))
}

// members parses the accesses to members of n that follow it.
func (p *parser) members(n api.Node) api.Node {
	for {
		switch {
		case p.takes("."):
			n = api.Node{Kind: api.NMember, Text: p.member(), Kids: []api.Node{n}}
		case p.takes("["):
			n = node(api.NIndex, n, p.expression())
			p.needs("]")
		default:
			return n
		}
	}
}

// member parses what follows a dot.
func (p *parser) member() string {
	if kind := p.next().Kind; kind != api.TName && kind != api.TWord {
		p.fail(api.ErrSyntax)
		return ""
	}
	return p.take().Text
}

// called parses the arguments of a call of f, of the given kind.
func (p *parser) called(kind int, f api.Node) api.Node {
	p.needs("(")
	return node(kind, append([]api.Node{f}, list(p, ")", p.expression)...)...)
}

// primary parses Y of the grammar.
func (p *parser) primary() api.Node {
	switch p.next().Kind {
	case api.TNumber:
		return api.Node{Kind: api.NNumber, Num: p.take().Num}
	case api.TString:
		return api.Node{Kind: api.NString, Text: p.take().Text}
	case api.TName:
		return api.Node{Kind: api.NName, Text: p.take().Text}
	}
	switch {
	case p.sees("("):
		return p.parenthesized()
	case p.takes("["):
		return node(api.NArray, list(p, "]", p.expression)...)
	case p.takes("{"):
		return node(api.NObject, list(p, "}", p.element)...)
	case p.takes("function"):
		return p.function(p.optionalName())
	}
	return p.literal()
}

// literal parses a word that is an expression of its own.
func (p *parser) literal() api.Node {
	switch {
	case p.takes("true"):
		return node(api.NTrue)
	case p.takes("false"):
		return node(api.NFalse)
	case p.takes("null"):
		return node(api.NNull)
	case p.takes("undefined"):
		return node(api.NUndef)
	case p.takes("this"):
		return node(api.NThis)
	}
	p.fail(api.ErrSyntax)
	return api.Node{}
}

func (p *parser) optionalName() string {
	if p.sees("(") {
		return ""
	}
	return p.name()
}

// element parses D of the grammar.
func (p *parser) element() api.Node {
	if p.takes("[") {
		key := p.expression()
		p.needs("]")
		return p.pair(key)
	}
	first := p.next()
	key := p.key()
	if first.Kind == api.TName && !p.sees(":") {
		switch first.Text {
		case "get":
			return p.getter()
		case "set":
			return p.setter()
		}
	}
	return p.pair(api.Node{Kind: api.NString, Text: key})
}

// pair parses what follows the key of a value.
func (p *parser) pair(key api.Node) api.Node {
	p.needs(":")
	return node(api.NPair, key, p.expression())
}

// getter parses what follows a `get`.
func (p *parser) getter() api.Node {
	n := api.Node{Kind: api.NGet, Text: p.key()}
	p.needs("(")
	p.needs(")")
	f := api.Node{Kind: api.NFunc, Kids: p.block().Kids}
	n.Kids = []api.Node{f}
	return n
}

// setter parses what follows a `set`.
func (p *parser) setter() api.Node {
	n := api.Node{Kind: api.NSet, Text: p.key()}
	p.needs("(")
	f := api.Node{Kind: api.NFunc, Names: []string{p.name()}}
	p.needs(")")
	f.Kids = p.block().Kids
	n.Kids = []api.Node{f}
	return n
}

// key parses K of the grammar.
func (p *parser) key() string {
	switch p.next().Kind {
	case api.TName, api.TWord, api.TString:
		return p.take().Text
	case api.TNumber:
		return numbers.Text(p.take().Num)
	}
	p.fail(api.ErrSyntax)
	return ""
}

// isMember reports whether n is an access to a member of an object.
func isMember(n api.Node) bool { return n.Kind == api.NMember || n.Kind == api.NIndex }
