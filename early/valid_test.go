package early

import (
	"slices"
	"strings"
	"testing"

	"understudy/api"
	"understudy/printer"
)

// judged tests what Check returns for a tree that need not be one of a program.
func judged(t *testing.T, n api.Node, want api.Errno) {
	t.Helper()
	if got := Check(n); got != want {
		t.Errorf("P1501: Check(%.300v) = %d, want %d", n, got, want)
	}
}

// single returns the program that consists of a statement.
func single(n api.Node) api.Node { return of(api.SProgram, n) }

func TestWhatIsNoProgram(t *testing.T) {
	a, empty, block := named(api.NName, "a"), of(api.SEmpty), of(api.SBlock)
	for _, n := range []api.Node{
		{}, {Kind: -1}, {Kind: 45}, a, empty, block, of(api.SReturn), of(api.NFunc), of(api.SLet),
		{Kind: api.SProgram, Num: 1}, {Kind: api.SProgram, Text: "a"}, {Kind: api.SProgram, Names: []string{"a"}},
		single(a), single(api.Node{}), single(of(api.SProgram)), single(of(api.SBlock, a)), single(of(api.NFunc)),
		single(named(api.SLet, "")), single(named(api.SLet, "let")), single(named(api.SConst, "a")),
		single(of(api.SFunc)), single(of(api.SFunc, of(api.NFunc))), single(of(api.SFunc, a)),
		single(of(api.SIf, a)), single(of(api.SWhile, a)), single(of(api.SWhile, block, block)),
		single(of(api.SIf, a, of(api.SIf, a, empty), empty)),
		single(of(api.SExpr, named(api.NName, "if"))), single(of(api.SExpr, api.Node{Kind: api.NFunc, Names: []string{"1"}})),
		single(api.Node{Kind: api.STry, Kids: []api.Node{block}}), single(named(api.SBreak, "a")), single(of(api.SReturn, a, a)),
	} {
		judged(t, n, api.ErrArg)
	}
}

// What is no program is told before early errors.
func TestEarlyErrorsOfWhatIsNoProgram(t *testing.T) {
	wrong := []api.Node{{}, named(api.NName, "a"), of(api.SExpr), named(api.SLet, "if"), of(api.SFunc), of(api.SProgram), of(api.SWhile, of(api.NThis))}
	for _, s := range []string{"return;", "break;", "continue;", "let a; let a;", "function f(a, a) { }", "if (a) let b;", "while (a) function f() { }"} {
		good := tree(t, s)
		judged(t, good, api.ErrSyntax)
		for _, w := range wrong {
			judged(t, of(api.SProgram, append(slices.Clone(good.Kids), w)...), api.ErrArg)
			judged(t, of(api.SProgram, append([]api.Node{w}, good.Kids...)...), api.ErrArg)
			judged(t, of(api.SProgram, append(slices.Clone(good.Kids), of(api.SBlock, w))...), api.ErrArg)
		}
		for _, kid := range good.Kids {
			judged(t, kid, api.ErrArg)
		}
	}
}

// samples are programs that together have all kinds of nodes.
func samples() []string {
	return strings.Split(`
		let x; const y = 1; function f(a, b) { return; }
		if (a) b; else { c; }
		while (a) { break; continue; }
		try { throw a; } catch (e) { } finally { ; }
		let o = {a: 1, [b]: 'c', get d() { return this; }, set e(v) { }};
		x = new a.b[c](true, false)(null, undefined);
		!a && -b || typeof c ? delete a.b : [a, function g() { }];
		return; break;
		let x; let x;
		function f(a, a) { }
		if (a) let x;`, "\n")
}

// A change of one thing makes ErrArg of any answer, if the tree is no program
// then.
func TestAlteredPrograms(t *testing.T) {
	count := 0
	for _, s := range samples() {
		n := tree(t, s)
		size := 0
		visit(&n, func(*api.Node) { size++ })
		for at := range size {
			for _, change := range []func(*api.Node){
				func(n *api.Node) { n.Kind = 0 },
				func(n *api.Node) { n.Kind = api.SBreak },
				func(n *api.Node) { n.Kind = api.SProgram },
				func(n *api.Node) { n.Num = 5 },
				func(n *api.Node) { n.Text = "" },
				func(n *api.Node) { n.Text = "if" },
				func(n *api.Node) { n.Names = []string{"a"} },
				func(n *api.Node) { n.Names = []string{"a", "1"} },
				func(n *api.Node) { n.Kids = nil },
				func(n *api.Node) { n.Kids = append(n.Kids, of(api.SReturn)) },
				func(n *api.Node) { n.Kids = append(n.Kids, named(api.NName, "a")) },
			} {
				c := clone(n)
				i := 0
				visit(&c, func(n *api.Node) {
					if i == at {
						change(n)
					}
					i++
				})
				want := api.OK
				switch {
				case !printer.Right(c):
					want = api.ErrArg
					count++
				case faultsOf(&c) != (faults{}):
					want = api.ErrSyntax
				}
				judged(t, c, want)
			}
		}
	}
	if count < 500 {
		t.Errorf("%d trees that are no programs: too few", count)
	}
}

// Parse returns a tree for a key that is too long, but it is not Right.
func TestKeysThatAreTooLong(t *testing.T) {
	long := strings.Repeat("a", api.MaxUnits)
	checked(t, "({"+long+": 1});", api.OK)
	checked(t, "({"+long+"a: 1});", api.ErrArg)
	checked(t, "({"+long+"a: 1}); return;", api.ErrArg)
}
