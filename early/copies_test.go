package early

import (
	"reflect"
	"testing"

	"understudy/api"
)

// cases are arguments: programs with and without early errors, and trees that
// are no programs.
func cases(t *testing.T) []api.Node {
	list := []api.Node{{}, of(api.SBreak), single(of(api.SIf)), single(named(api.SLet, "if"))}
	for _, s := range samples() {
		n := tree(t, s)
		list = append(list, n)
		list = append(list, n.Kids...)
	}
	for _, f := range frames() {
		list = append(list, tree(t, filled(f.source, "return;")))
	}
	return list
}

// roomy returns a copy of n of which each list has spare capacity with
// something in it.
func roomy(n api.Node) api.Node {
	names := append(append([]string{}, n.Names...), "spare", "spare")
	kids := []api.Node{}
	for _, kid := range n.Kids {
		kids = append(kids, roomy(kid))
	}
	kids = append(kids, of(api.SThrow), of(api.SThrow))
	n.Names, n.Kids = names[:len(n.Names)], kids[:len(n.Kids)]
	return n
}

func TestArgumentsAreNotModified(t *testing.T) {
	for _, n := range cases(t) {
		r := roomy(n)
		if got, want := Check(r), Check(n); got != want {
			t.Errorf("P1502: Check(%.300v) = %d, and %d with spare capacity", n, want, got)
		}
		if !unspoilt(n, r) {
			t.Errorf("P1502: Check(%.300v) modified it", n)
		}
	}
}

// unspoilt compares a tree with a roomy copy that nobody has modified.
func unspoilt(n, roomy api.Node) bool {
	names, kids := roomy.Names[:len(n.Names)+2], roomy.Kids[:len(n.Kids)+2]
	for i, kid := range n.Kids {
		if !unspoilt(kid, kids[i]) {
			return false
		}
	}
	for i, name := range n.Names {
		if names[i] != name {
			return false
		}
	}
	n.Names, n.Kids, roomy.Names, roomy.Kids = nil, nil, nil, nil
	spare := of(api.SThrow)
	return reflect.DeepEqual(n, roomy) && names[len(names)-1] == "spare" && names[len(names)-2] == "spare" &&
		reflect.DeepEqual(kids[len(kids)-1], spare) && reflect.DeepEqual(kids[len(kids)-2], spare)
}

func TestResultsDependOnArgumentsAlone(t *testing.T) {
	list := cases(t)
	var results []api.Errno
	for _, n := range list {
		results = append(results, Check(n))
	}
	for i := len(list) - 1; i >= 0; i-- {
		if got := Check(list[i]); got != results[i] {
			t.Errorf("P1502: Check(%.300v) = %d, and %d before", list[i], got, results[i])
		}
	}
}

// A tree is used as it is when the function is called, not as it was before.
func TestTreesAreNotKept(t *testing.T) {
	n := tree(t, "while (a) { let b; let c; break; }")
	judged(t, n, api.OK)
	list := n.Kids[0].Kids[1].Kids
	list[1].Text = "b"
	judged(t, n, api.ErrSyntax)
	list[1].Text = "d"
	judged(t, n, api.OK)
	list[2].Kind = api.SReturn
	judged(t, n, api.ErrSyntax)
	list[2].Kind = api.SExpr
	judged(t, n, api.ErrArg)
	list[2].Kind = api.SContinue
	judged(t, n, api.OK)
}

// Parts of a tree may be the same memory, and stand in different places.
func TestPartsThatAreTheSame(t *testing.T) {
	this := of(api.NThis)
	list := []api.Node{named(api.SLet, "a"), of(api.SBreak)}
	block := of(api.SBlock, list...)
	loop := of(api.SWhile, this, block)
	judged(t, of(api.SProgram, loop, loop, of(api.SFunc, named(api.NFunc, "f", loop))), api.OK)
	judged(t, of(api.SProgram, loop, block), api.ErrSyntax)
	judged(t, of(api.SProgram, block, loop), api.ErrSyntax)
	judged(t, of(api.SProgram, of(api.SWhile, this, of(api.SBlock, append(list, list...)...))), api.ErrSyntax)
	f := named(api.NFunc, "f", of(api.SReturn))
	judged(t, of(api.SProgram, of(api.SFunc, f), of(api.SExpr, f), of(api.SExpr, f)), api.OK)
	judged(t, of(api.SProgram, of(api.SFunc, f), of(api.SFunc, f)), api.ErrSyntax)
}

func TestNilAndEmptyListsAreTheSame(t *testing.T) {
	for _, n := range cases(t) {
		c := clone(n)
		visit(&c, func(n *api.Node) {
			n.Names, n.Kids = append([]string{}, n.Names...), append([]api.Node{}, n.Kids...)
		})
		d := clone(n)
		visit(&d, func(n *api.Node) {
			if len(n.Names) == 0 {
				n.Names = nil
			}
			if len(n.Kids) == 0 {
				n.Kids = nil
			}
		})
		if Check(c) != Check(d) {
			t.Errorf("P1502: nil and empty lists differ in %.300v", n)
		}
	}
}
