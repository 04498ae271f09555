package printer

import (
	"understudy/api"
	"understudy/lex"
	"understudy/values"
)

// Right reports whether n is a valid program: one that a text can have, were it
// not for limits of length and depth.
func Right(n api.Node) bool {
	// A list of what is to be seen, because a tree may be too deep for recursion.
	left := []spot{{&n, program}}
	for len(left) > 0 {
		last := len(left) - 1
		s := left[last]
		left = left[:last]
		if !s.rightKind() || !s.rightText() || !s.rightNames() || !s.rightNum() || !s.rightElse() {
			return false
		}
		var ok bool
		if left, ok = s.appendKids(left); !ok {
			return false
		}
	}
	return true
}

// spot is a node and where it stands.
type spot struct {
	node *api.Node
	at   place
}

// appendKids appends the kids of s to list. It returns false if there are not
// as many as there must be.
func (s spot) appendKids(list []spot) ([]spot, bool) {
	rest := s.node.Kids
	for _, c := range layout(s.node, s.at) {
		if !isPlace(c) {
			continue
		}
		if len(rest) == 0 {
			return nil, false
		}
		list = append(list, spot{&rest[0], place(c)})
		rest = rest[1:]
	}
	return list, len(rest) == 0
}

// rightKind reports whether the node has a kind that may stand where it does.
func (s spot) rightKind() bool {
	kind := s.node.Kind
	switch s.at {
	case program:
		return kind == api.SProgram
	case statement:
		return api.SLet <= kind && kind <= api.SEmpty && kind != api.SCatch
	case block:
		return kind == api.SBlock
	case handler:
		return kind == api.SCatch
	case expression:
		return api.NNumber <= kind && kind <= api.NAssign && !isElement(kind)
	case target:
		return kind == api.NName || isMember(kind)
	case member:
		return isMember(kind)
	case element:
		return isElement(kind)
	}
	// What is left are the places of functions.
	return kind == api.NFunc
}

func isMember(kind int) bool { return kind == api.NMember || kind == api.NIndex }

func isElement(kind int) bool {
	return kind == api.NPair || kind == api.NGet || kind == api.NSet
}

func (s spot) rightText() bool {
	t := s.node.Text
	switch s.node.Kind {
	case api.NString, api.NGet, api.NSet:
		return values.Right(valueOf(s.node))
	case api.NName, api.SLet, api.SConst, api.SCatch:
		return isVariable(t)
	case api.NFunc:
		return s.rightFunctionName()
	case api.NMember:
		return isName(t) && lex.Word(t) != unused
	case api.NUnary:
		return isUnary(t)
	case api.NBinary:
		return isBinary(t)
	}
	return t == ""
}

// rightFunctionName reports whether the node, which is an NFunc, may have its
// Text.
func (s spot) rightFunctionName() bool {
	switch s.at {
	case declaration:
		return isVariable(s.node.Text)
	case expression:
		return s.node.Text == "" || isVariable(s.node.Text)
	}
	return s.node.Text == ""
}

func (s spot) rightNames() bool {
	list := s.node.Names
	switch {
	case s.node.Kind != api.NFunc || s.at == getter:
		return len(list) == 0
	case s.at == setter && len(list) != 1:
		return false
	}
	for _, name := range list {
		if !isVariable(name) {
			return false
		}
	}
	return true
}

func (s spot) rightNum() bool {
	n := s.node.Num
	switch s.node.Kind {
	case api.NNumber:
		// There are no negative ones: a minus is an operator.
		return n >= 0 && values.Right(valueOf(s.node))
	case api.STry:
		return hasCatch <= n && n <= hasCatch|hasFinally
	}
	return n == 0
}

// rightElse reports whether an `else` that the node has would belong to it.
func (s spot) rightElse() bool {
	return s.node.Kind != api.SIf || len(s.node.Kids) != 3 || !lacksElse(&s.node.Kids[1])
}

// lacksElse reports whether n, which need not be valid, ends with an `if` that
// has no `else`.
func lacksElse(n *api.Node) bool {
	for {
		switch {
		case n.Kind == api.SIf && len(n.Kids) == 3:
			n = &n.Kids[2]
		case n.Kind == api.SWhile && len(n.Kids) == 2:
			n = &n.Kids[1]
		default:
			return n.Kind == api.SIf
		}
	}
}

// What lex.Word returns for names that are not reserved, and for reserved words
// that the language does not use.
const (
	free   = 0
	unused = 2
)

// isVariable reports whether s may be the name of a variable.
func isVariable(s string) bool { return isName(s) && lex.Word(s) == free }

// isName reports whether s is written as names are, reserved or not.
func isName(s string) bool {
	for i, c := range s {
		letter := 'a' <= c && c <= 'z' || 'A' <= c && c <= 'Z' || c == '_' || c == '$'
		digit := '0' <= c && c <= '9'
		if !letter && (!digit || i == 0) {
			return false
		}
	}
	return s != ""
}

func isUnary(s string) bool {
	switch s {
	case "!", "-", "typeof", "delete":
		return true
	}
	return false
}

// isBinary leaves out `&&` and `||`, which have kinds of their own.
func isBinary(s string) bool {
	switch s {
	case "===", "!==", "<", ">", "<=", ">=", "in", "+", "-", "*", "/", "%":
		return true
	}
	return false
}
