package parse

import (
	"bytes"
	"testing"

	"understudy/api"
)

// samples are arguments of Parse: some are right, some are not.
func samples() []string {
	return []string{
		"", "a;", "let x = 'a\\n' + \"\\ud83d\"; // end", "if (x === 10) { f(); } else while (a) ;",
		"function f(a, b, c) { return [a, b, c, 1, 2]; } function g(a) {}",
		"x = {a: 1, 'b': 2, [c]: 3, get d() { e; f; }, set d(e) { a; b; c; }};",
		"try { a; b; c; } catch (e) { a; b; c; } finally { a; b; c; }",
		"new a(1, 2, 3)(4, 5, 6).b[7]; !a; a ? b : c = d; a + b || c && d;",
		"a b", "1 = 2;", "delete a;", "try {}", "a", times(101, "{"), times(200, "("), "'\\x'", "#", "\xff",
		string(make([]byte, api.MaxSource+1)),
	}
}

func TestArgumentsAreNeitherModifiedNorKept(t *testing.T) {
	for _, s := range samples() {
		whole := []byte("<" + s + ">spare")
		before := bytes.Clone(whole)
		n, at, e := Parse(whole[1 : 1+len(s)])
		if !bytes.Equal(whole, before) {
			t.Errorf("P1304: Parse(%.40q) modified its argument or what follows", s)
		}
		want := verdict(n, at, e)
		for i := range whole {
			whole[i] = 'z'
		}
		if got := verdict(n, at, e); got != want {
			t.Errorf("P1304: Parse(%.40q) kept its argument: %.300s, then %.300s", s, want, got)
		}
	}
}

// spoilSpare overwrites what the lists within n have room for.
func spoilSpare(n api.Node) {
	wrong := api.Node{Kind: 99, Num: 99, Text: "z"}
	for i := len(n.Kids); i < cap(n.Kids); i++ {
		n.Kids[:cap(n.Kids)][i] = wrong
	}
	for i := len(n.Names); i < cap(n.Names); i++ {
		n.Names[:cap(n.Names)][i] = "z"
	}
	for _, kid := range n.Kids {
		spoilSpare(kid)
	}
}

// spoil overwrites all that the lists within n have.
func spoil(n api.Node) {
	for i := range n.Names {
		n.Names[i] = "z"
	}
	for i, kid := range n.Kids {
		spoil(kid)
		n.Kids[i] = api.Node{Kind: 99, Num: 99, Text: "z"}
	}
}

func TestResultsAreNewlyAllocated(t *testing.T) {
	for _, s := range samples() {
		first, at, e := Parse([]byte(s))
		want := verdict(first, at, e)
		second, _, _ := Parse([]byte(s))
		spoilSpare(first)
		if got := verdict(first, at, e); got != want {
			t.Errorf("P1304: lists of Parse(%.40q) share memory: %.300s, then %.300s", s, want, got)
		}
		spoil(first)
		if got := verdict(second, at, e); got != want {
			t.Errorf("P1304: two results of Parse(%.40q) share memory: %.300s, then %.300s", s, want, got)
		}
		if got := verdict(Parse([]byte(s))); got != want {
			t.Errorf("P1304: Parse(%.40q) = %.300s, then %.300s", s, want, got)
		}
	}
}

func TestResultsDependOnArgumentsAlone(t *testing.T) {
	var forth []string
	for _, s := range samples() {
		forth = append(forth, verdict(Parse([]byte(s))))
	}
	list := samples()
	for i := len(list) - 1; i >= 0; i-- {
		if got := verdict(Parse([]byte(list[i]))); got != forth[i] {
			t.Errorf("P1304: Parse(%.40q) = %.300s, then %.300s", list[i], forth[i], got)
		}
	}
	if got := verdict(Parse(nil)); got != verdict(Parse([]byte{})) {
		t.Errorf("P1304: a nil slice and an empty one differ: %s", got)
	}
}

// Each element of a list has a list of its own, also where all are the same.
func TestListsWithinAResultShareNothing(t *testing.T) {
	n, _, _ := Parse([]byte("f(a, b); f(a, b); (function (a, b) { c; }); (function (a, b) { c; });"))
	want := show(n)
	for i := range n.Kids {
		m, _, _ := Parse([]byte("f(a, b); f(a, b); (function (a, b) { c; }); (function (a, b) { c; });"))
		spoil(m.Kids[i])
		for j, kid := range m.Kids {
			if j != i && show(kid) != show(n.Kids[j]) {
				t.Errorf("P1304: statements %d and %d share memory", i, j)
			}
		}
	}
	if got := show(n); got != want {
		t.Errorf("P1304: a result has changed: %s, then %s", want, got)
	}
}
