package early

import (
	"slices"
	"strings"
	"testing"

	"understudy/api"
	"understudy/parse"
)

// tree returns the tree of a program.
func tree(t *testing.T, source string) api.Node {
	t.Helper()
	n, at, e := parse.Parse([]byte(source))
	if e != api.OK {
		t.Fatalf("Parse(%.300q): error %d at %d", source, e, at)
	}
	return n
}

// checked tests what Check returns for the tree of a program.
func checked(t *testing.T, source string, want api.Errno) {
	t.Helper()
	if got := Check(tree(t, source)); got != want {
		t.Errorf("P1501: Check of the tree of %.300q = %d, want %d", source, got, want)
	}
}

// accepted tests that each of list, which are separated by line ends, has no
// early error.
func accepted(t *testing.T, list string) {
	t.Helper()
	for s := range strings.Lines(list) {
		checked(t, s, api.OK)
	}
}

// refused tests that each of list, which are separated by line ends, has an
// early error.
func refused(t *testing.T, list string) {
	t.Helper()
	for s := range strings.Lines(list) {
		if strings.TrimSpace(s) != "" {
			checked(t, s, api.ErrSyntax)
		}
	}
}

// filled returns the source frame with what stands in for its mark.
func filled(frame, what string) string { return strings.Replace(frame, "^", what, 1) }

// clone returns a copy of n that shares no lists with it.
func clone(n api.Node) api.Node {
	n.Names, n.Kids = slices.Clone(n.Names), slices.Clone(n.Kids)
	for i, kid := range n.Kids {
		n.Kids[i] = clone(kid)
	}
	return n
}

// visit passes all nodes of a tree to f, itself first.
func visit(n *api.Node, f func(*api.Node)) {
	f(n)
	for i := range n.Kids {
		visit(&n.Kids[i], f)
	}
}

func of(kind int, kids ...api.Node) api.Node { return api.Node{Kind: kind, Kids: kids} }

func named(kind int, text string, kids ...api.Node) api.Node {
	return api.Node{Kind: kind, Text: text, Kids: kids}
}
