package eval

import (
	"slices"
	"testing"

	"understudy/api"
)

// roomy returns a copy of n of which each list has spare capacity with
// something in it.
func roomy(n api.Node) api.Node {
	names := append(slices.Clone(n.Names), "spare", "spare")
	kids := make([]api.Node, 0, len(n.Kids)+2)
	for _, k := range n.Kids {
		kids = append(kids, roomy(k))
	}
	kids = append(kids, of(api.SThrow), of(api.SThrow))
	n.Names, n.Kids = names[:len(n.Names)], kids[:len(n.Kids)]
	return n
}

// untouched compares a tree with a roomy copy that nobody has modified.
func untouched(n, roomy api.Node) bool {
	names, kids := roomy.Names[:len(n.Names)+2], roomy.Kids[:len(n.Kids)+2]
	for i, k := range n.Kids {
		if !untouched(k, kids[i]) {
			return false
		}
	}
	spare := []api.Node{of(api.SThrow), of(api.SThrow)}
	return show(names) == show(append(slices.Clone(n.Names), "spare", "spare")) && show(kids[len(n.Kids):]) == show(spare) &&
		n.Kind == roomy.Kind && n.Num == roomy.Num && n.Text == roomy.Text
}

// spoil overwrites a tree, also behind the ends of its lists.
func spoil(n *api.Node) {
	for i := range n.Kids {
		spoil(&n.Kids[i])
	}
	names, kids := n.Names[:cap(n.Names)], n.Kids[:cap(n.Kids)]
	for i := range names {
		names[i] = "spoilt"
	}
	for i := range kids {
		kids[i] = of(api.SThrow, digit(666))
	}
}

func TestTreesAreNotModified(t *testing.T) {
	for _, s := range append(examples(), "return; function f(a) { }", "function f(a, b) { return function () { }; } f();") {
		n := tree(t, s)
		r := roomy(n)
		m, other := fresh(t), fresh(t)
		got, want := m.Run(r), other.Run(n)
		if show(got) != show(want) || !untouched(n, r) {
			t.Errorf("P2005: %s: %+v, want %+v; or the tree was modified", s, got, want)
		}
	}
	for _, n := range []api.Node{single(of(api.SBreak)), {Kind: api.SProgram, Names: []string{"a"}}, of(api.SReturn, digit(1))} {
		r := roomy(n)
		if m := fresh(t); m.tell(m.Run(r)) != "threw SyntaxError" || !untouched(n, r) {
			t.Errorf("P2005: %+v: the tree was modified", n)
		}
	}
}

// TestTreesAreNotKept: functions remain what they were.
func TestTreesAreNotKept(t *testing.T) {
	m := fresh(t)
	n := roomy(tree(t, "let c = 1; (function (a, b) { let d = function (e) { return [a, b, c, e]; }; return d(4); });"))
	f := m.Run(n).Value
	spoil(&n)
	for range 2 {
		r := m.World().Do(api.MCall, f.Num, api.Ask{List: []api.Value{number(2), number(3)}})
		if got := m.tell(r); got != "[2 3 1 4]" {
			t.Errorf("P2005: the function returns %s", got)
		}
	}
}

// TestTreesThatAreRunAgain are the same as before, also where parts of a tree
// are the same memory.
func TestTreesThatAreRunAgain(t *testing.T) {
	m := fresh(t)
	n := tree(t, "let a = function () { return function () { return 1; }; }; a()();")
	for range 3 {
		if r := m.Run(n); show(r) != show(api.Reply{Value: number(1)}) {
			t.Errorf("P2005: %+v", r)
		}
	}
	m.has("P2003", "0 in 1, 1 in 2, 2 in 4, 3 in 5, 4 in 7, 5 in 8")
	twice := []api.Node{of(api.NFunc)}
	m = fresh(t)
	m.Run(program(of(api.SExpr, twice...), of(api.SExpr, twice...)))
	m.has("P2003", "0 in 1, 1 in 1")
}

// TestLinesAreCopies: what is done with Out changes nothing, and Out does not
// change afterwards.
func TestLinesAreCopies(t *testing.T) {
	m := fresh(t)
	m.done("print(1); print(2); print(3);")
	first := m.Out()
	first[0] = "spoilt"
	first = append(first[:1], "spoilt")
	if got := show(m.Out()); got != "[1 2 3]" {
		t.Errorf("P2005: Out is %s", got)
	}
	second := m.Out()
	second = append(second, "spoilt")
	m.done("print(4);")
	if got := show(m.Out()); got != "[1 2 3 4]" || show(second) != "[1 2 3 spoilt]" || first[1] != "spoilt" {
		t.Errorf("P2005: Out is %s, and was %q", got, second)
	}
}

// TestArgumentsOfACall are neither modified nor kept.
func TestArgumentsOfACall(t *testing.T) {
	m := fresh(t)
	f := m.thing(m.done("let l; (function (a, b) { if (l) return l(); l = function () { return [a, b]; }; a = 7; b = 8; });"))
	args := []api.Value{number(1), number(2), str("spare"), str("spare")}
	m.Call(m.World(), f, undefined, args[:2])
	if !slices.Equal(args, []api.Value{number(1), number(2), str("spare"), str("spare")}) {
		t.Errorf("P2005: the arguments are %+v", args)
	}
	args[0], args[1], args[2] = no, no, no
	if got := m.tell(m.Call(m.World(), f, undefined, nil)); got != "[7 8]" {
		t.Errorf("P2005: the arguments were kept: %s", got)
	}
}

// TestListsOfCalls do not become those of others: the log remains what it was.
func TestListsOfCalls(t *testing.T) {
	m := fresh(t)
	m.done("function f(a, b) { return a; } f(1, f(2, 3)); [f(4, 5), f(6, 7)]; f(8, [f(9, 10)]); new f(11, 12);")
	var got []string
	for _, s := range m.World().Log() {
		if s.Method == api.MCall || s.Method == api.MConstruct {
			got = append(got, show(s.Ask.List[0].Num)+" "+brief(s.Ask.List[1]))
		}
	}
	if want := "[2 3 1 2 4 5 6 7 9 10 8 #35 11 12]"; show(got) != want {
		t.Errorf("P2005: the lists are %s, want %s", show(got), want)
	}
}
