package early

import (
	"strconv"
	"testing"

	"understudy/api"
)

// layers put a node around a statement.
func layers() []func(api.Node) api.Node {
	a, empty := named(api.NName, "a"), of(api.SEmpty)
	return []func(api.Node) api.Node{
		func(n api.Node) api.Node { return of(api.SBlock, n) },
		func(n api.Node) api.Node { return of(api.SBlock, empty, named(api.SLet, "a"), n) },
		func(n api.Node) api.Node { return of(api.SWhile, a, n) },
		func(n api.Node) api.Node { return of(api.SIf, a, empty, n) },
		func(n api.Node) api.Node { return of(api.SFunc, named(api.NFunc, "f", n)) },
		func(n api.Node) api.Node { return of(api.SExpr, of(api.NFunc, n)) },
		func(n api.Node) api.Node { return of(api.SWhile, of(api.NFunc, n), empty) },
		func(n api.Node) api.Node {
			return api.Node{Kind: api.STry, Num: 2, Kids: []api.Node{of(api.SBlock, n), of(api.SBlock)}}
		},
	}
}

// There is no limit of depth for this package, and none of its work is done
// once for each layer above.
func TestDeepPrograms(t *testing.T) {
	core := of(api.SBlock, of(api.SReturn), of(api.SBreak), named(api.SLet, "b"))
	for i, layer := range layers() {
		const depth = 200000
		n := of(api.SBlock)
		for range depth {
			n = layer(n)
		}
		if got := Check(single(n)); got != api.OK {
			t.Errorf("P1501: layer %d, %d times: Check = %d", i, depth, got)
		}
		n = of(api.SBlock, named(api.SLet, "a"), named(api.SConst, "a", of(api.NThis)))
		for range depth {
			n = layer(n)
		}
		if got := Check(single(n)); got != api.ErrSyntax {
			t.Errorf("P1501: layer %d, %d times, around an error: Check = %d", i, depth, got)
		}
		// The function of the core is outermost, and its loop innermost.
		n = of(api.SWhile, of(api.NThis), core)
		for range depth {
			n = layer(n)
		}
		if got := Check(single(of(api.SFunc, named(api.NFunc, "g", n)))); got != api.OK {
			t.Errorf("P1501: layer %d, %d times, in a function: Check = %d", i, depth, got)
		}
	}
}

func TestDeepExpressions(t *testing.T) {
	const depth = 1000000
	for _, kid := range []api.Node{named(api.NName, "a"), of(api.NFunc), of(api.NFunc, of(api.SReturn)), of(api.NFunc, of(api.SBreak))} {
		n := kid
		for range depth {
			n = named(api.NUnary, "!", n)
		}
		want := api.OK
		if len(kid.Kids) > 0 && kid.Kids[0].Kind == api.SBreak {
			want = api.ErrSyntax
		}
		if got := Check(single(of(api.SExpr, n))); got != want {
			t.Errorf("P1501: %d levels: Check = %d, want %d", depth, got, want)
		}
	}
}

// The time for names does not grow with the square of their number.
func TestManyNames(t *testing.T) {
	const count = 300000
	f := api.Node{Kind: api.NFunc, Text: "f"}
	var lets []api.Node
	for i := range count {
		f.Names = append(f.Names, "p"+strconv.Itoa(i))
		lets = append(lets, named(api.SLet, "l"+strconv.Itoa(i)))
	}
	check := func(kind int, names []string, kids []api.Node, want api.Errno) {
		t.Helper()
		n := of(api.SProgram, kids...)
		switch kind {
		case api.SBlock:
			n = single(of(api.SBlock, kids...))
		case api.NFunc:
			n = single(of(api.SFunc, api.Node{Kind: api.NFunc, Text: "f", Names: names, Kids: kids}))
		}
		if got := Check(n); got != want {
			t.Errorf("P1501: many names in a node of kind %d: Check = %d, want %d", kind, got, want)
		}
	}
	for _, again := range []string{"l0", "l77", "l299999"} {
		twice := append(lets[:count:count], named(api.SLet, again))
		for _, kind := range []int{api.SProgram, api.SBlock, api.NFunc} {
			check(kind, nil, lets, api.OK)
			check(kind, nil, twice, api.ErrSyntax)
		}
	}
	check(api.NFunc, f.Names, lets, api.OK)
	check(api.NFunc, append(f.Names[:count:count], "p0"), nil, api.ErrSyntax)
	check(api.NFunc, append(f.Names[:count:count], "l299999"), lets, api.ErrSyntax)
}

func TestManyStatements(t *testing.T) {
	const count = 300000
	list := make([]api.Node, count)
	for i := range list {
		list[i] = of(api.SWhile, of(api.NThis), of(api.SBreak))
	}
	if got := Check(of(api.SProgram, list...)); got != api.OK {
		t.Errorf("P1501: Check of %d loops = %d", count, got)
	}
	for _, i := range []int{0, 1, count / 2, count - 1} {
		old := list[i]
		list[i] = of(api.SBreak)
		if got := Check(of(api.SProgram, list...)); got != api.ErrSyntax {
			t.Errorf("P1501: Check of %d loops and a break at %d = %d", count-1, i, got)
		}
		list[i] = old
	}
}
