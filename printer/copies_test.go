package printer

import (
	"testing"

	"understudy/api"
)

// cases are arguments: programs, and trees that are none.
func cases(t *testing.T) []api.Node {
	list := []api.Node{{}, of(api.SBreak), prog(of(api.NPair)), single(of(api.SIf)), prog(named(api.NBinary, "~", name("a"), name("b")))}
	for _, s := range samples() {
		n := tree(t, s)
		list = append(list, n)
		if len(n.Kids) > 0 {
			list = append(list, n.Kids[0])
		}
	}
	return list
}

// roomy returns a copy of n of which each list has spare capacity with
// something in it.
func roomy(n api.Node) api.Node {
	names := append(append([]string{}, n.Names...), "spare", "spare")
	n.Names = names[:len(n.Names)]
	kids := append([]api.Node{}, n.Kids...)
	for i := range kids {
		kids[i] = roomy(kids[i])
	}
	kids = append(kids, of(api.SThrow), of(api.SThrow))
	n.Kids = kids[:len(n.Kids)]
	return n
}

// whole compares a tree with a roomy copy that nobody has modified.
func whole(n, roomy api.Node) bool {
	names, kids := roomy.Names[:len(n.Names)+2], roomy.Kids[:len(n.Kids)+2]
	for i, kid := range n.Kids {
		if !whole(kid, kids[i]) {
			return false
		}
	}
	spare := names[len(n.Names)] == "spare" && names[len(n.Names)+1] == "spare" &&
		same(kids[len(n.Kids)], of(api.SThrow)) && same(kids[len(n.Kids)+1], of(api.SThrow))
	return spare && same(n, roomy)
}

func TestArgumentsAreNotModified(t *testing.T) {
	for _, n := range cases(t) {
		r := roomy(n)
		if Right(r) != Right(n) || !whole(n, r) {
			t.Errorf("P102: Right of the tree of %q modified it", plain(n))
		}
		if Print(r) != Print(n) || !whole(n, r) {
			t.Errorf("P102: Print of the tree of %q modified it", plain(n))
		}
	}
}

func TestResultsDependOnArgumentsAlone(t *testing.T) {
	list := cases(t)
	var texts []string
	var rights []bool
	for _, n := range list {
		texts, rights = append(texts, Print(n)), append(rights, Right(n))
	}
	for i := len(list) - 1; i >= 0; i-- {
		if Right(list[i]) != rights[i] || Print(list[i]) != texts[i] {
			t.Errorf("P102: Right or Print of %.300q has changed", texts[i])
		}
	}
}

// A tree is used as it is when a function is called, not as it was before.
func TestTreesAreNotKept(t *testing.T) {
	n := tree(t, "a + b;")
	before := Print(n)
	n.Kids[0].Kids[0].Kids[1] = number(7)
	if got := Print(n); got != "(a + 7);\n" || before != "(a + b);\n" {
		t.Errorf("P102: Print = %q, and %q before", got, before)
	}
	n.Kids[0].Kids[0].Text = "&&"
	if Right(n) || Print(n) != "" {
		t.Errorf("P102: a tree that is no longer right is")
	}
}

// Parts of a tree may be the same memory.
func TestPartsThatAreTheSame(t *testing.T) {
	pair := []api.Node{name("a"), name("b")}
	n := of(api.NIndex, pair...)
	m := of(api.NAnd, of(api.NOr, pair...), n)
	judged(t, prog(of(api.NArray, n, m, n)), true, "[(a[b]), ((a || b) && (a[b])), (a[b])];\n")
	x := name("a")
	want := "a"
	for range 10 {
		x = named(api.NBinary, "+", x, x)
		want = "(" + want + " + " + want + ")"
	}
	judged(t, prog(x), true, want+";\n")
}

func TestNilAndEmptyListsAreTheSame(t *testing.T) {
	for _, n := range cases(t) {
		c := clone(n)
		for _, x := range all(&c) {
			x.Names, x.Kids = append([]string{}, x.Names...), append([]api.Node{}, x.Kids...)
		}
		d := clone(n)
		for _, x := range all(&d) {
			if len(x.Names) == 0 {
				x.Names = nil
			}
			if len(x.Kids) == 0 {
				x.Kids = nil
			}
		}
		if Right(c) != Right(d) || Print(c) != Print(d) {
			t.Errorf("P102: nil and empty lists differ in the tree of %q", plain(n))
		}
	}
}
