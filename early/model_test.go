package early

import (
	"math/rand/v2"
	"strings"
	"testing"

	"understudy/api"
)

// faults are the clauses of P1501 that a program breaks.
type faults struct{ returns, breaks, twice, branch bool }

// declaration is a name, and the node that has it declared directly in it.
type declaration struct {
	owner *api.Node
	name  string
}

// faultsOf tells by the nodes around each node what is wrong with a program.
func faultsOf(n *api.Node) faults {
	var f faults
	var names []declaration
	walk(n, nil, func(n *api.Node, around []*api.Node) {
		switch n.Kind {
		case api.SReturn:
			f.returns = f.returns || !hasKind(around, api.NFunc)
		case api.SBreak, api.SContinue:
			f.breaks = f.breaks || !hasKind(upToFunction(around), api.SWhile)
		case api.SLet, api.SConst, api.SFunc:
			owner := around[len(around)-1]
			f.branch = f.branch || owner.Kind == api.SIf || owner.Kind == api.SWhile
			name := n.Text
			if n.Kind == api.SFunc {
				name = n.Kids[0].Text
			}
			names = append(names, declaration{owner, name})
		}
		for _, name := range n.Names {
			names = append(names, declaration{n, name})
		}
	})
	for i, a := range names {
		for _, b := range names[:i] {
			lists := a.owner.Kind == api.SBlock || a.owner.Kind == api.SProgram || a.owner.Kind == api.NFunc
			f.twice = f.twice || a == b && lists
		}
	}
	return f
}

// walk passes each node to f, with those around it, the outermost first.
func walk(n *api.Node, around []*api.Node, f func(*api.Node, []*api.Node)) {
	f(n, around)
	for i := range n.Kids {
		walk(&n.Kids[i], append(around[:len(around):len(around)], n), f)
	}
}

func hasKind(list []*api.Node, kind int) bool {
	for _, n := range list {
		if n.Kind == kind {
			return true
		}
	}
	return false
}

// upToFunction returns what is around a node within its function.
func upToFunction(around []*api.Node) []*api.Node {
	for i := len(around) - 1; i >= 0; i-- {
		if around[i].Kind == api.NFunc {
			return around[i:]
		}
	}
	return around
}

// writer writes programs by chance. S, E, N, L, F and D in its forms stand for
// statements, expressions, names, lists of statements, functions behind their
// names, and parts of objects; P for more parameters.
type writer struct {
	*rand.Rand
	names string
}

// write returns a text of the form s. What it nests gets less with depth.
func (w *writer) write(s string, depth int) string {
	var b strings.Builder
	for _, c := range s {
		if strings.ContainsRune("SENLFDP", c) {
			b.WriteString(w.part(c, depth-1))
		} else {
			b.WriteRune(c)
		}
	}
	return b.String()
}

func (w *writer) part(c rune, depth int) string {
	// The forms of each letter, first those without others in them.
	few, more := "", ""
	switch c {
	case 'N':
		return string(w.names[w.IntN(len(w.names))])
	case 'S':
		few = ";|N;|let N;|const N = 1;|break;|continue;|return;"
		more = "let N = E;|const N = E;|function NF|if (E) S|if (E) { L } else S|while (E) S|return E;|throw E;" +
			"|try { L } catch (N) { L }|try { L } finally { L }|{ L }|{ L }|{ L }|E;|E;|while (E) { L }|function NF"
	case 'E':
		few = "N|1|this"
		more = "(function F)|(function NF)|({D, D})|E.N|E[E]|E(E)|new N(E)|-E|(E + E)|(E && E)|(E ? E : E)|(N = E)|[E, E]"
	case 'L':
		few = "|S|S S"
		more = "S|S S|S S S"
	case 'F':
		few = "() { }|(N) { }|(NP) { }"
		more = "() { L }|(N) { L }|(NP) { L }"
	case 'P':
		few = ", N"
		more = ", N|, N, N"
	case 'D':
		few = "N: N"
		more = "N: E|[E]: E|get N() { L }|set N(N) { L }"
	}
	if depth > 0 && w.IntN(5) > 0 {
		few = more
	}
	forms := strings.Split(few, "|")
	return w.write(forms[w.IntN(len(forms))], depth)
}

func TestProgramsMadeByChance(t *testing.T) {
	w := writer{Rand: rand.New(rand.NewPCG(15, 1))}
	count := map[faults]int{}
	for range 100000 {
		w.names = "abcdefghijklmnopqrstuvwxyz"[:1+w.IntN(26)]
		source := w.write("L", 1+w.IntN(7))
		n := tree(t, source)
		f := faultsOf(&n)
		count[f]++
		want := api.OK
		if f != (faults{}) {
			want = api.ErrSyntax
		}
		if got := Check(n); got != want {
			t.Fatalf("P1501: Check of the tree of %q = %d, want %d", source, got, want)
		}
	}
	for _, f := range []faults{{}, {returns: true}, {breaks: true}, {twice: true}, {branch: true}} {
		if count[f] < 1000 {
			t.Errorf("%d programs with %v: too few", count[f], f)
		}
	}
}

// Two statements in each place for a list, of all kinds that matter.
func TestShortPrograms(t *testing.T) {
	var statements []string
	for _, frame := range strings.Split("^|{ ^ }|while (a) ^|if (a) ^|if (a) ; else ^|function a() { ^ }|(function (b) { ^ });|while (function b(a) { ^ }) ;|try { ^ } catch (b) { ^ }", "|") {
		for _, s := range strings.Split("let a;|const b = 1;|function a(b) { }|return;|break;|let b; function b() { }", "|") {
			statements = append(statements, strings.ReplaceAll(frame, "^", s))
		}
	}
	frames := []string{"^", "{ ^ }", "while (a) { ^ }", "function b(a) { ^ }", "({set a(b) { ^ }});"}
	for _, frame := range frames {
		for _, a := range statements {
			for _, b := range statements {
				source := filled(frame, a+" "+b)
				n := tree(t, source)
				want := api.OK
				if faultsOf(&n) != (faults{}) {
					want = api.ErrSyntax
				}
				if got := Check(n); got != want {
					t.Fatalf("P1501: Check of the tree of %q = %d, want %d", source, got, want)
				}
			}
		}
	}
}
