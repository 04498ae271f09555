package printer

import (
	"slices"
	"strings"
	"testing"

	"understudy/api"
	"understudy/parse"
)

// specimens has a node of each kind that there is, and of some that there are
// not.
func specimens(t *testing.T) []api.Node {
	list := []api.Node{{}, {Kind: -1}, {Kind: 25}, {Kind: 29}, {Kind: 45}, {Kind: 1 << 40}}
	var kinds []int
	for _, s := range samples() {
		for _, n := range all(new(tree(t, s))) {
			if !slices.Contains(kinds, n.Kind) {
				kinds = append(kinds, n.Kind)
				list = append(list, *n)
			}
		}
	}
	if len(kinds) != 24+15 {
		t.Fatalf("%d kinds of nodes", len(kinds))
	}
	return list
}

// texts has those that are right for some node, and some that are not.
func texts() []string {
	return strings.Split("|a|get|if|undefined|class|1|a b|!|-|typeof|delete|===|in|+|&&|=|.|é|\xff|\xed\xa0\xbd|\n", "|")
}

// altered passes n to check, with one thing changed at the node at.
func altered(n api.Node, at int, others []api.Node, check func(api.Node)) {
	change := func(f func(*api.Node)) {
		c := clone(n)
		f(all(&c)[at])
		check(c)
	}
	for _, o := range others {
		change(func(x *api.Node) { x.Kind = o.Kind })
		change(func(x *api.Node) { *x = clone(o) })
		change(func(x *api.Node) { x.Kids = append(x.Kids, clone(o)) })
		change(func(x *api.Node) { x.Kids = append([]api.Node{clone(o)}, x.Kids...) })
	}
	for _, num := range []int{-1 << 63, -2, -1, 0, 1, 2, 3, 4, 5, 7, most, most + 1, 1<<63 - 1} {
		change(func(x *api.Node) { x.Num = num })
	}
	for _, s := range texts() {
		change(func(x *api.Node) { x.Text = s })
	}
	for _, list := range [][]string{nil, {}, {"a"}, {"a", "a"}, {"a", "b", "c"}, {""}, {"if"}, {"class"}, {"a", "1"}, {"a, b"}, {"\xff"}} {
		change(func(x *api.Node) { x.Names = list })
	}
	change(func(x *api.Node) { x.Kids = nil })
	for i := range all(new(clone(n)))[at].Kids {
		change(func(x *api.Node) { x.Kids = slices.Delete(x.Kids, i, i+1) })
		change(func(x *api.Node) { x.Kids = slices.Insert(x.Kids, i, clone(x.Kids[i])) })
		change(func(x *api.Node) { x.Kids[0], x.Kids[i] = x.Kids[i], x.Kids[0] })
	}
}

// Every change of one thing in any of the samples.
func TestAlteredTrees(t *testing.T) {
	others := specimens(t)
	count := map[bool]int{}
	for _, s := range samples() {
		n := tree(t, s)
		for at := range all(&n) {
			altered(n, at, others, func(c api.Node) {
				is := returnable(c)
				count[is]++
				judged(t, c, is, plain(c))
			})
			if t.Failed() {
				return
			}
		}
	}
	if count[true] < 5000 || count[false] < 20000 {
		t.Errorf("%d right and %d wrong trees", count[true], count[false])
	}
}

// grafted returns a copy of n with a part of it replaced by a part of m.
func grafted(d *dice, n, m api.Node) api.Node {
	c := clone(n)
	to, from := all(&c), all(&m)
	*to[d.roll(len(to))] = clone(*from[d.roll(len(from))])
	return c
}

func TestTreesMadeByChance(t *testing.T) {
	var pool []api.Node
	for _, s := range samples() {
		pool = append(pool, tree(t, s))
	}
	d := dice(14)
	wrongs, rights := 0, 0
	for range 60000 {
		n := grafted(&d, pool[d.roll(len(pool))], pool[d.roll(len(pool))])
		if len(all(&n)) > 30 {
			continue
		}
		is := returnable(n)
		judged(t, n, is, plain(n))
		if t.Failed() {
			return
		}
		if !is {
			wrongs++
			continue
		}
		rights++
		if len(pool) < 400 {
			pool = append(pool, n)
		} else {
			pool[len(samples())+d.roll(len(pool)-len(samples()))] = n
		}
	}
	if rights < 10000 || wrongs < 10000 {
		t.Errorf("%d right and %d wrong trees", rights, wrongs)
	}
}

// returned checks P1403 for what Parse makes of a source, and reports whether
// it is a program.
func returned(t *testing.T, source string) bool {
	t.Helper()
	n, _, e := parse.Parse([]byte(source))
	if e != api.OK {
		return false
	}
	if !Right(n) {
		t.Errorf("P1403: the tree of %.300q is not Right", source)
	}
	text := Print(n)
	back, at, e := parse.Parse([]byte(text))
	if e == api.ErrDeep || e == api.ErrLong {
		return true
	}
	if e != api.OK || !same(n, back) {
		t.Errorf("P1403: Parse(%.300q), which is Print of the tree of %.300q, has error %d at %d", text, source, e, at)
	}
	return true
}

// vocabulary has every token of one form.
func vocabulary() []string {
	return strings.Fields(`a b get set 0 12 's' "\ud83d" true false null undefined this
		break catch const continue delete else finally function if in let new return throw try typeof while
		=== !== && || <= >= { } ( ) [ ] ; , . ? : = < > + - * / % !`)
}

func TestSourcesOfFewTokens(t *testing.T) {
	count := 0
	for _, a := range vocabulary() {
		for _, b := range vocabulary() {
			for _, c := range vocabulary() {
				for _, s := range []string{a + " " + b + " " + c, "x = " + a + " " + b + " " + c + ";", "({" + a + " " + b + " " + c + " { } });"} {
					if returned(t, s) {
						count++
					}
				}
			}
		}
	}
	if count < 2000 {
		t.Errorf("%d programs", count)
	}
}

// Canonical texts with one to three tokens removed, doubled or replaced, above
// all parentheses.
func TestSourcesMadeByChance(t *testing.T) {
	d := dice(3)
	count := 0
	for range 100000 {
		n := tree(t, samples()[d.roll(len(samples()))])
		for range 2 {
			n = grafted(&d, n, tree(t, samples()[d.roll(len(samples()))]))
		}
		tokens := strings.Fields(spaced(plain(n)))
		for range d.roll(4) {
			if len(tokens) == 0 {
				break
			}
			i := d.roll(len(tokens))
			switch d.roll(3) {
			case 0:
				tokens = slices.Delete(tokens, i, i+1)
			case 1:
				tokens = slices.Insert(tokens, i, tokens[i])
			case 2:
				tokens[i] = vocabulary()[d.roll(len(vocabulary()))]
			}
		}
		if d.roll(2) == 0 {
			tokens = slices.DeleteFunc(tokens, func(s string) bool { return (s == "(" || s == ")") && d.roll(3) == 0 })
		}
		if returned(t, strings.Join(tokens, " ")) {
			count++
		}
	}
	if count < 10000 {
		t.Errorf("%d programs", count)
	}
}

// spaced puts spaces around the punctuators of a text that has no strings with
// such.
func spaced(s string) string {
	var b strings.Builder
	for _, c := range s {
		if strings.ContainsRune("(){}[];,.?:", c) {
			b.WriteString(" " + string(c) + " ")
		} else {
			b.WriteRune(c)
		}
	}
	return b.String()
}
