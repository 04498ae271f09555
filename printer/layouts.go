package printer

import (
	"strings"

	"understudy/api"
)

// A layout is the canonical text of a node in which an upper-case letter stands
// for each kid, by the place that it has, and a sign for each other thing that
// differs from node to node.
const (
	text  = '#' // the Text
	value = '$' // the Num or the Text as values.Show has it
	names = '@' // the Names
)

// place is where a node stands, which tells the kinds that it may have.
type place rune

const (
	program     place = 'P'
	statement   place = 'S'
	block       place = 'B'
	handler     place = 'C'
	expression  place = 'A'
	target      place = 'T' // of an assignment
	member      place = 'M' // that is deleted
	element     place = 'D' // of an object
	declaration place = 'F' // the function of a statement
	getter      place = 'G' // the function of one
	setter      place = 'H' // the function of one
)

func isPlace(c rune) bool { return 'A' <= c && c <= 'Z' }

// What Num of an STry says that it has.
const (
	hasCatch   = 1
	hasFinally = 2
)

// layout returns the layout of n, also if n has not the kids that it should
// have. Unknown kinds have an empty one.
func layout(n *api.Node, at place) string {
	switch {
	case n.Kind == api.NFunc:
		return functionLayout(n, at)
	case n.Kind < api.SLet:
		return expressionLayout(n)
	}
	return statementLayout(n)
}

func functionLayout(n *api.Node, at place) string {
	parts := "(@) " + bracedLayout(n)
	switch at {
	case getter, setter:
		return parts
	case declaration:
		return "function #" + parts
	}
	return "(function #" + parts + ")"
}

func expressionLayout(n *api.Node) string {
	switch n.Kind {
	case api.NNumber, api.NString:
		return "$"
	case api.NTrue:
		return "true"
	case api.NFalse:
		return "false"
	case api.NNull:
		return "null"
	case api.NUndef:
		return "undefined"
	case api.NThis:
		return "this"
	case api.NName:
		return "#"
	case api.NArray:
		return "[" + listLayout("A", len(n.Kids)) + "]"
	case api.NObject:
		return "({" + listLayout("D", len(n.Kids)) + "})"
	case api.NPair:
		return pairLayout(n)
	case api.NGet:
		return "get $G"
	case api.NSet:
		return "set $H"
	case api.NMember:
		return "(A.#)"
	case api.NIndex:
		return "(A[A])"
	case api.NCall:
		return "(A(" + listLayout("A", len(n.Kids)-1) + "))"
	case api.NNew:
		return "(new A(" + listLayout("A", len(n.Kids)-1) + "))"
	case api.NUnary:
		return unaryLayout(n)
	case api.NBinary:
		return "(A # A)"
	case api.NAnd:
		return "(A && A)"
	case api.NOr:
		return "(A || A)"
	case api.NCond:
		return "(A ? A : A)"
	case api.NAssign:
		return "(T = A)"
	}
	return ""
}

func statementLayout(n *api.Node) string {
	switch n.Kind {
	case api.SLet:
		if len(n.Kids) == 0 {
			return "let #;"
		}
		return "let # = A;"
	case api.SConst:
		return "const # = A;"
	case api.SFunc:
		return "F"
	case api.SExpr:
		return "A;"
	case api.SIf:
		if len(n.Kids) < 3 {
			return "if (A) S"
		}
		return "if (A) S else S"
	case api.SWhile:
		return "while (A) S"
	case api.SReturn:
		if len(n.Kids) == 0 {
			return "return;"
		}
		return "return A;"
	case api.SThrow:
		return "throw A;"
	case api.STry:
		return tryLayout(n)
	case api.SCatch:
		return "catch (#) B"
	case api.SBlock:
		return bracedLayout(n)
	case api.SBreak:
		return "break;"
	case api.SContinue:
		return "continue;"
	case api.SEmpty:
		return ";"
	case api.SProgram:
		return repeated("S\n", len(n.Kids))
	}
	return ""
}

func tryLayout(n *api.Node) string {
	s := "try B"
	if n.Num&hasCatch != 0 {
		s += " C"
	}
	if n.Num&hasFinally != 0 {
		s += " finally B"
	}
	return s
}

func pairLayout(n *api.Node) string {
	if len(n.Kids) > 0 && n.Kids[0].Kind == api.NString {
		return "A: A"
	}
	return "[A]: A"
}

func unaryLayout(n *api.Node) string {
	switch n.Text {
	case "delete":
		return "(# M)"
	case "typeof":
		return "(# A)"
	}
	return "(#A)"
}

// bracedLayout returns a block of the kids of n.
func bracedLayout(n *api.Node) string {
	return "{" + repeated(" S", len(n.Kids)) + " }"
}

// listLayout returns a list of n kids, separated by commas.
func listLayout(kid string, n int) string {
	return strings.TrimSuffix(repeated(kid+", ", n), ", ")
}

// repeated allows for a count below 0, which lists have that lack a kid.
func repeated(s string, n int) string { return strings.Repeat(s, max(n, 0)) }
