package eval

import (
	"fmt"
	"strings"
	"testing"

	"understudy/api"
	"understudy/parse"
)

// dice are numbers by chance, always the same ones.
type dice uint64

func (d *dice) roll(n int) int {
	*d = *d*6364136223846793005 + 1442695040888963407
	return int(uint64(*d)>>33) % n
}

func (d *dice) pick(l string) string {
	words := strings.Split(l, "|")
	return words[d.roll(len(words))]
}

// maker makes programs by chance.
type maker struct {
	*dice
	left int // how much more may be made
}

// inside is what a statement stands in.
type inside struct{ loop, function bool }

func (m maker) variable() string { return m.pick("a|b|c|d|f|g|a|b|c|d|f|g|e|h") }

func (m maker) global() string { return m.pick("Proxy|Reflect|Object|Symbol|Array|print") }

func (m maker) member() string { return m.pick("x|y|z|x|y|z|length|prototype|call|bind|name|get") }

func (m maker) literal() string {
	return m.pick(`0|1|2|3|7|""|"x"|"y"|"0"|"5"|"length"|true|false|null|undefined|this|9007199254740991`)
}

func (m *maker) smaller() bool {
	m.left--
	return m.left > 0
}

func (m *maker) expressions(most int) string {
	var l []string
	for range m.roll(most + 1) {
		l = append(l, m.expression())
	}
	return strings.Join(l, ", ")
}

// object is an expression that may well be an object.
func (m *maker) object() string {
	switch m.roll(8) {
	case 0:
		return m.global()
	case 1:
		return m.literals()
	case 2:
		return m.expression()
	case 3:
		return "new Proxy(" + m.variable() + ", {" + m.traps() + "})"
	}
	return m.variable()
}

func (m *maker) reference() string {
	if m.roll(3) > 0 {
		return "(" + m.object() + ")." + m.member()
	}
	return "(" + m.object() + ")[" + m.expression() + "]"
}

func (m *maker) literals() string {
	switch m.roll(3) {
	case 0:
		return "[" + m.expressions(3) + "]"
	case 1:
		return "({" + m.parts() + "})"
	}
	return m.function()
}

func (m *maker) parts() string {
	var l []string
	for range m.roll(4) {
		key := m.pick("x|y|z|'y'|0|length|[" + m.literal() + "]|[" + m.variable() + "]")
		switch m.roll(8) {
		case 0:
			l = append(l, "get "+m.pick("x|y|0")+"() { "+m.list(inside{function: true})+"}")
		case 1:
			l = append(l, "set "+m.pick("x|y|0")+"(h) { "+m.list(inside{function: true})+"}")
		default:
			l = append(l, key+": "+m.expression())
		}
	}
	return strings.Join(l, ", ")
}

// traps are some of those that honest handlers have, and some others.
func (m *maker) traps() string {
	var l []string
	for range m.roll(3) {
		trap := m.pick("has|get|set|deleteProperty|ownKeys|apply|construct|defineProperty|getOwnPropertyDescriptor|getPrototypeOf|isExtensible|preventExtensions")
		if m.roll(2) == 0 {
			l = append(l, trap+": Reflect."+trap)
		} else {
			l = append(l, trap+": "+m.function())
		}
	}
	return strings.Join(l, ", ")
}

func (m *maker) function() string {
	return "(function " + m.pick("|f|g|h") + "(" + m.pick("|a|a, b|b, a, d|c") + ") { " + m.list(inside{function: true}) + "})"
}

func (m *maker) expression() string {
	if !m.smaller() {
		return m.pick(m.literal() + "|" + m.variable())
	}
	switch m.roll(20) {
	case 0, 1:
		return m.literal()
	case 2, 3:
		return m.variable()
	case 4, 5:
		return m.literals()
	case 6, 7:
		return m.reference()
	case 8:
		return m.object() + "(" + m.expressions(3) + ")"
	case 9:
		return m.reference() + "(" + m.expressions(3) + ")"
	case 10:
		return "new (" + m.object() + ")(" + m.expressions(2) + ")"
	case 11:
		return m.pick("!|-|typeof ") + "(" + m.expression() + ")"
	case 12:
		return "typeof " + m.variable()
	case 13:
		return "(delete " + m.reference() + ")"
	case 14:
		return "(" + m.expression() + m.pick(" + | - | * | / | % | < | > | <= | >= | === | !== | in | in ") + m.expression() + ")"
	case 15:
		return "(" + m.expression() + []string{" && ", " || "}[m.roll(2)] + m.expression() + ")"
	case 16:
		return "(" + m.expression() + " ? " + m.expression() + " : " + m.expression() + ")"
	case 17:
		return "(" + m.variable() + " = " + m.expression() + ")"
	case 18:
		return "(" + m.reference() + " = " + m.expression() + ")"
	}
	return m.native()
}

func (m *maker) native() string {
	switch m.roll(4) {
	case 0:
		return "print(" + m.expressions(3) + ")"
	case 1:
		return "Object." + m.pick("create|freeze|seal|isFrozen|keys") + "(" + m.variable() + ")"
	case 2:
		return "Reflect." + m.pick("get|has|deleteProperty|ownKeys|apply|construct|set|defineProperty|getOwnPropertyDescriptor|setPrototypeOf") + "(" + m.variable() + ", " + m.expression() + ", " + m.expression() + ")"
	}
	return "new Proxy(" + m.variable() + ", {" + m.traps() + "})"
}

// list is a list of statements that declare different names.
func (m *maker) list(in inside) string {
	var l []string
	names := strings.Split(m.pick("a b c|b f g|d|g h|c a||"), " ")
	for _, s := range names {
		if s == "" || in.function && (s == "a" || s == "b" || s == "d" || s == "h" || s == "c") {
			continue
		}
		l = append(l, m.declaration(s))
	}
	for range 1 + m.roll(3) {
		l = append(l, m.statement(in))
	}
	for i := range l {
		j := m.roll(i + 1)
		l[i], l[j] = l[j], l[i]
	}
	return strings.Join(l, " ") + " "
}

func (m *maker) declaration(s string) string {
	switch m.roll(5) {
	case 0:
		return "let " + s + ";"
	case 1:
		return "const " + s + " = " + m.expression() + ";"
	case 2:
		return "function " + s + "(" + m.pick("|a|a, b|c") + ") { " + m.list(inside{function: true}) + "}"
	}
	return "let " + s + " = " + m.expression() + ";"
}

func (m *maker) statement(in inside) string {
	if !m.smaller() {
		return m.variable() + ";"
	}
	switch m.roll(14) {
	case 0:
		return "if (" + m.expression() + ") " + m.statement(in)
	case 1:
		return "if (" + m.expression() + ") { " + m.list(in) + "} else " + m.statement(in)
	case 2:
		return "{ let e = " + m.pick("1|2|3") + "; while (e) { e = e - 1; " + m.statement(inside{true, in.function}) + " } }"
	case 3:
		return "while (" + m.expression() + ") " + m.statement(inside{true, in.function})
	case 4:
		return "{ " + m.list(in) + "}"
	case 5, 6:
		return "try { " + m.list(in) + "} catch (e) { " + m.list(in) + "}"
	case 7:
		return "try { " + m.list(in) + "} catch (e) { " + m.list(in) + "} finally { " + m.list(in) + "}"
	case 8:
		return "try { " + m.list(in) + "} finally { " + m.list(in) + "}"
	case 9:
		if in.loop {
			return m.pick("break;|continue;")
		}
		return "throw " + m.expression() + ";"
	case 10:
		if in.function {
			return []string{"return;", "return this;", "return " + m.expression() + ";"}[m.roll(3)]
		}
		return ";"
	}
	return "(" + m.expression() + ");"
}

// program begins with variables of all kinds.
func (m *maker) program() string {
	var l []string
	for _, s := range []string{"a", "b", "c", "d", "f", "g"} {
		if m.roll(8) > 0 {
			l = append(l, fmt.Sprintf("let %s = %s;", s, m.pick("1|'x'|{x: 1, y: {z: 2}}|[1, 2]|function (a, b) { return a; }|function (a) { this.x = a; print(this === undefined, a); return b; }|new Proxy({x: 1}, {})|Object.freeze({x: 1})|{get x() { return this; }, set y(h) { this.z = h; }}")))
		}
	}
	for range 5 {
		m.left = 3 + m.roll(20)
		s := m.statement(inside{})
		if m.roll(8) > 0 {
			s = "try { " + s + " } catch (e) { print(typeof e, e); }"
		}
		l = append(l, s)
	}
	return strings.Join(l, "\n") + "\n" + m.pick("1;|a;|[a, b];|print(a, b, c);||")
}

// agree executes sources, one after the other, by a Machine and by the model,
// and returns how they ended.
func agree(t *testing.T, b api.Bounds, sources ...string) []api.Reply {
	t.Helper()
	m, other := New(b), newModel(b)
	var ends []api.Reply
	for _, s := range sources {
		n, _, e := parse.Parse([]byte(s))
		if e != api.OK {
			t.Fatalf("Parse has error %d:\n%s", e, s)
		}
		got, want := m.Run(n), other.run(n)
		want = api.Reply{Flow: want.Flow, Value: want.Value}
		if show(got) != show(want) {
			t.Fatalf("with %+v the reply is %+v, want %+v\n%s", b, got, want, s)
		}
		ends = append(ends, got)
	}
	what := fmt.Sprintf("with %+v:\n%s", b, strings.Join(sources, "\n---\n"))
	same(t, what, m.World(), other.w)
	if show(m.Out()) != show(other.n.Out) {
		t.Fatalf("printed %q, want %q, %s", m.Out(), other.n.Out, what)
	}
	last := m.scopes.Make(0)
	if want := other.s.Make(0); last != want {
		t.Fatalf("%d scopes, want %d, %s", last, want, what)
	}
	for env := range last {
		for _, s := range []string{"a", "b", "c", "d", "e", "f", "g", "h"} {
			v, state := m.scopes.Get(env, s)
			w, want := other.s.Get(env, s)
			if v != w || state != want {
				t.Fatalf("%s in the scope %d is %+v, %d, want %+v, %d, %s", s, env, v, state, w, want, what)
			}
		}
	}
	return ends
}

// TestProgramsMadeByChance do what the model does, also where the bounds end
// them somewhere.
func TestProgramsMadeByChance(t *testing.T) {
	d := dice(20)
	ends := map[int]int{}
	for range 4000 {
		m := &maker{dice: &d}
		sources := []string{m.program()}
		for m.roll(4) == 0 {
			sources = append(sources, m.program())
		}
		b := api.Bounds{Fuel: 3000, Room: 250, Deep: 25}
		ends[agree(t, b, sources...)[0].Flow]++
		cut := b
		switch m.roll(3) {
		case 0:
			cut.Fuel = m.roll(1 + m.roll(600))
		case 1:
			cut.Room = built + m.roll(1+m.roll(60))
		case 2:
			cut.Deep = m.roll(8)
		}
		ends[agree(t, cut, sources...)[0].Flow]++
	}
	for flow := range api.TooDeep + 1 {
		if ends[flow] < 200 {
			t.Errorf("%d programs end with the flow %d", ends[flow], flow)
		}
	}
}
