package printer

import (
	"strconv"
	"strings"

	"understudy/api"
	"understudy/parse"
	"understudy/values"
)

// plain is P1402 once more, by recursion and for all trees: where n is not
// valid, it returns some text.
func plain(n api.Node) string {
	var b strings.Builder
	for _, k := range n.Kids {
		b.WriteString(plainS(k) + "\n")
	}
	return b.String()
}

// kid returns a kid of n, or a node without a text if n has too few.
func kid(n api.Node, i int) api.Node {
	if i < len(n.Kids) {
		return n.Kids[i]
	}
	return api.Node{}
}

func plainS(n api.Node) string {
	switch n.Kind {
	case api.SLet:
		if len(n.Kids) == 0 {
			return "let " + n.Text + ";"
		}
		return "let " + n.Text + " = " + plainA(kid(n, 0)) + ";"
	case api.SConst:
		return "const " + n.Text + " = " + plainA(kid(n, 0)) + ";"
	case api.SFunc:
		return "function " + kid(n, 0).Text + plainF(kid(n, 0))
	case api.SExpr:
		return plainA(kid(n, 0)) + ";"
	case api.SIf:
		s := "if (" + plainA(kid(n, 0)) + ") " + plainS(kid(n, 1))
		if len(n.Kids) > 2 {
			s += " else " + plainS(n.Kids[2])
		}
		return s
	case api.SWhile:
		return "while (" + plainA(kid(n, 0)) + ") " + plainS(kid(n, 1))
	case api.SReturn:
		if len(n.Kids) == 0 {
			return "return;"
		}
		return "return " + plainA(kid(n, 0)) + ";"
	case api.SThrow:
		return "throw " + plainA(kid(n, 0)) + ";"
	case api.STry:
		return plainTry(n)
	case api.SBlock:
		return plainB(n)
	case api.SBreak:
		return "break;"
	case api.SContinue:
		return "continue;"
	case api.SEmpty:
		return ";"
	}
	return ""
}

func plainTry(n api.Node) string {
	s := "try " + plainS(kid(n, 0))
	i := 1
	if n.Num&1 != 0 {
		c := kid(n, i)
		s += " catch (" + c.Text + ") " + plainS(kid(c, 0))
		i++
	}
	if n.Num&2 != 0 {
		s += " finally " + plainS(kid(n, i))
	}
	return s
}

// plainB writes the kids of n as a block.
func plainB(n api.Node) string {
	s := "{"
	for _, k := range n.Kids {
		s += " " + plainS(k)
	}
	return s + " }"
}

// plainF writes a function behind its name.
func plainF(n api.Node) string { return "(" + strings.Join(n.Names, ", ") + ") " + plainB(n) }

// plainList writes expressions between commas.
func plainList(list []api.Node) string {
	var texts []string
	for _, n := range list {
		texts = append(texts, plainA(n))
	}
	return strings.Join(texts, ", ")
}

func plainA(n api.Node) string {
	switch n.Kind {
	case api.NNumber:
		return strconv.Itoa(n.Num)
	case api.NString:
		return quoted(n.Text)
	case api.NTrue:
		return "true"
	case api.NFalse:
		return "false"
	case api.NNull:
		return "null"
	case api.NUndef:
		return "undefined"
	case api.NThis:
		return "this"
	case api.NName:
		return n.Text
	case api.NArray:
		return "[" + plainList(n.Kids) + "]"
	}
	return "(" + plainLong(n) + ")"
}

func quoted(s string) string {
	return values.Show(api.Value{Kind: api.String, Str: s}, false)
}

// plainLong writes an expression that has parentheses.
func plainLong(n api.Node) string {
	a, b, c := plainKid(n, 0), plainKid(n, 1), plainKid(n, 2)
	switch n.Kind {
	case api.NObject:
		return plainObject(n)
	case api.NFunc:
		return "function " + n.Text + plainF(n)
	case api.NMember:
		return a + "." + n.Text
	case api.NIndex:
		return a + "[" + b + "]"
	case api.NCall:
		return a + "(" + plainList(n.Kids[min(1, len(n.Kids)):]) + ")"
	case api.NNew:
		return "new " + a + "(" + plainList(n.Kids[min(1, len(n.Kids)):]) + ")"
	case api.NUnary:
		if n.Text == "typeof" || n.Text == "delete" {
			return n.Text + " " + a
		}
		return n.Text + a
	case api.NBinary:
		return a + " " + n.Text + " " + b
	case api.NAnd:
		return a + " && " + b
	case api.NOr:
		return a + " || " + b
	case api.NCond:
		return a + " ? " + b + " : " + c
	case api.NAssign:
		return a + " = " + b
	}
	return ""
}

func plainKid(n api.Node, i int) string {
	if i < len(n.Kids) && n.Kids[i].Kind != 0 {
		return plainA(n.Kids[i])
	}
	return ""
}

func plainObject(n api.Node) string {
	var texts []string
	for _, k := range n.Kids {
		switch {
		case k.Kind == api.NGet:
			texts = append(texts, "get "+quoted(k.Text)+plainF(kid(k, 0)))
		case k.Kind == api.NSet:
			texts = append(texts, "set "+quoted(k.Text)+plainF(kid(k, 0)))
		case k.Kind == api.NPair && kid(k, 0).Kind == api.NString:
			texts = append(texts, plainKid(k, 0)+": "+plainKid(k, 1))
		case k.Kind == api.NPair:
			texts = append(texts, "["+plainKid(k, 0)+"]: "+plainKid(k, 1))
		default:
			texts = append(texts, "")
		}
	}
	return "{" + strings.Join(texts, ", ") + "}"
}

// returnable reports whether Parse can return n, which must be small: if so, it does
// for the plain text of n.
func returnable(n api.Node) bool {
	got, _, e := parse.Parse([]byte(plain(n)))
	if e == api.ErrDeep || e == api.ErrLong {
		panic("too great to tell: " + plain(n))
	}
	return e == api.OK && same(n, got)
}
