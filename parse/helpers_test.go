package parse

import (
	"strconv"
	"strings"
	"testing"

	"understudy/api"
)

// show returns a node with all its fields as text. Nil and empty lists are the
// same.
func show(n api.Node) string {
	var b strings.Builder
	writeNode(&b, n)
	return b.String()
}

func writeNode(b *strings.Builder, n api.Node) {
	b.WriteString("(" + strconv.Itoa(n.Kind))
	if n.Num != 0 {
		b.WriteString(" #" + strconv.Itoa(n.Num))
	}
	if n.Text != "" {
		b.WriteString(" " + strconv.Quote(n.Text))
	}
	if len(n.Names) > 0 {
		b.WriteString(" [" + strings.Join(n.Names, " ") + "]")
	}
	for _, kid := range n.Kids {
		b.WriteByte(' ')
		writeNode(b, kid)
	}
	b.WriteByte(')')
}

// verdict returns what Parse returns as text.
func verdict(n api.Node, at int, e api.Errno) string {
	return show(n) + " at " + strconv.Itoa(at) + " error " + strconv.Itoa(int(e))
}

func of(kind int, kids ...api.Node) api.Node { return api.Node{Kind: kind, Kids: kids} }

func with(kind int, text string, kids ...api.Node) api.Node {
	return api.Node{Kind: kind, Text: text, Kids: kids}
}

func name(s string) api.Node { return with(api.NName, s) }

func text(s string) api.Node { return with(api.NString, s) }

func number(n int) api.Node { return api.Node{Kind: api.NNumber, Num: n} }

func expr(n api.Node) api.Node { return of(api.SExpr, n) }

func pair(key string, value api.Node) api.Node { return of(api.NPair, text(key), value) }

func binary(sign string, left, right api.Node) api.Node {
	return with(api.NBinary, sign, left, right)
}

func unary(sign string, operand api.Node) api.Node { return with(api.NUnary, sign, operand) }

// function has the names that params names, separated by spaces.
func function(id, params string, body ...api.Node) api.Node {
	return api.Node{Kind: api.NFunc, Text: id, Names: strings.Fields(params), Kids: body}
}

// parses tests that source is a program of the statements want.
func parses(t *testing.T, promise, source string, want ...api.Node) {
	t.Helper()
	got := verdict(Parse([]byte(source)))
	if s := verdict(of(api.SProgram, want...), 0, api.OK); got != s {
		t.Errorf("%s: Parse(%.200q) = %.400s, want %.400s", promise, source, got, s)
	}
}

// yields tests that source is the expression want.
func yields(t *testing.T, promise, source string, want api.Node) {
	t.Helper()
	parses(t, promise, source+";", expr(want))
	parses(t, promise, "let x ="+source+"\n;", with(api.SLet, "x", want))
}

// refuses tests that what marked is without its mark `^` has the error e where
// the mark stands.
func refuses(t *testing.T, promise, marked string, e api.Errno) {
	t.Helper()
	before, after, ok := strings.Cut(marked, "^")
	if !ok {
		t.Fatalf("%.200q has no mark", marked)
	}
	got := verdict(Parse([]byte(before + after)))
	if s := verdict(api.Node{}, len(before), e); got != s {
		t.Errorf("%s: Parse(%.200q) = %.400s, want %s", promise, before+after, got, s)
	}
}

// wrong tests that each of list, which are separated by line ends, is refused
// with ErrSyntax at its mark, whatever stands behind.
func wrong(t *testing.T, list string) {
	t.Helper()
	for s := range strings.Lines(list) {
		s = strings.TrimSpace(s)
		if s == "" {
			continue
		}
		refuses(t, "P1301", s, api.ErrSyntax)
		refuses(t, "P1301", s+" ( ] else", api.ErrSyntax)
		refuses(t, "P1301", "a;\n"+s, api.ErrSyntax)
	}
}

// unfinished tests that each of list, which are separated by line ends, wants
// something behind its end.
func unfinished(t *testing.T, list string) {
	t.Helper()
	for s := range strings.Lines(list) {
		s = strings.TrimSpace(s)
		if s == "" {
			continue
		}
		refuses(t, "P1301", s+"^", api.ErrSyntax)
		refuses(t, "P1301", s+" // end\n ^", api.ErrSyntax)
	}
}
