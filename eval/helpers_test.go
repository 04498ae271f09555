package eval

import (
	"fmt"
	"slices"
	"strings"
	"testing"

	"understudy/api"
	"understudy/mop"
	"understudy/parse"
	"understudy/values"
)

var (
	undefined = api.Value{}
	null      = api.Value{Kind: api.Null}
	yes, no   = api.Value{Kind: api.Bool, Num: 1}, api.Value{Kind: api.Bool}
)

func number(n int) api.Value { return api.Value{Kind: api.Number, Num: n} }

func str(s string) api.Value { return api.Value{Kind: api.String, Str: s} }

func obj(o int) api.Value { return api.Value{Kind: api.Object, Num: o} }

func name(s string) api.Key { return api.Key{Str: s} }

// built is how many objects there are before the first program.
const built = 32

func plenty() api.Bounds { return api.Bounds{Fuel: 1000000, Room: 10000, Deep: 1000} }

// tree parses a program, which must be right.
func tree(t *testing.T, source string) api.Node {
	t.Helper()
	n, at, e := parse.Parse([]byte(source))
	if e != api.OK {
		t.Fatalf("Parse(%q) has error %d at %d", source, e, at)
	}
	return n
}

// machine is a Machine that executes sources.
type machine struct {
	*Machine
	t *testing.T
}

func fresh(t *testing.T) machine { return machine{New(plenty()), t} }

func (m machine) run(source string) api.Reply {
	m.t.Helper()
	return m.Run(tree(m.t, source))
}

// done executes a program that ends well, and returns its value.
func (m machine) done(source string) api.Value {
	m.t.Helper()
	r := m.run(source)
	if show(r) != show(api.Reply{Value: r.Value}) {
		m.t.Fatalf("%q: %s, want a value", source, m.tell(r))
	}
	return r.Value
}

func (m machine) thing(v api.Value) api.Thing {
	m.t.Helper()
	x, ok := m.World().Heap.Get(v.Num)
	if v.Kind != api.Object || !ok {
		m.t.Fatalf("%+v does not exist", v)
	}
	return x
}

func (m machine) objects() []api.Thing {
	var l []api.Thing
	for o := range m.World().Heap.Len() {
		l = append(l, m.thing(obj(o)))
	}
	return l
}

// spent is how much fuel was used.
func (m machine) spent() int {
	fuel, _ := m.World().Left()
	return plenty().Fuel - fuel
}

// shown is a value as print shows it, but an array with its elements and an
// error with its name.
func shown(w *mop.World, v api.Value) string {
	x, _ := w.Heap.Get(v.Num)
	if v.Kind != api.Object || x.Kind != api.Array && x.Kind != api.Error {
		return values.Show(v, w.Calls(v))
	}
	var l []string
	for _, p := range x.Props {
		switch {
		case x.Kind == api.Error && p.Key == name("name"):
			return p.Desc.Value.Str
		case p.Key != name("length"):
			l = append(l, shown(w, p.Desc.Value))
		}
	}
	return "[" + strings.Join(l, " ") + "]"
}

// tell shows how something ended.
func (m machine) tell(r api.Reply) string {
	flow := strings.Split("done threw NoFuel NoRoom TooDeep return break again", " ")[r.Flow]
	if r.Flow == api.Done {
		return shown(m.World(), r.Value)
	}
	if r.Flow == api.Threw {
		return flow + " " + shown(m.World(), r.Value)
	}
	return flow
}

// rows divides a text into lines without the spaces around them, and these by
// the mark.
func rows(text, mark string) [][2]string {
	var l [][2]string
	for _, line := range strings.Split(text, "\n") {
		if line = strings.TrimSpace(line); line != "" {
			left, right, _ := strings.Cut(line, mark)
			l = append(l, [2]string{strings.TrimSpace(left), strings.TrimSpace(right)})
		}
	}
	return l
}

// gives checks how programs end: each line is a program, `=>`, and its value or
// what it throws.
func gives(t *testing.T, promise, text string) {
	t.Helper()
	for _, row := range rows(text, "=>") {
		m := fresh(t)
		if got := m.tell(m.run(row[0])); got != row[1] {
			t.Errorf("%s: %s gives %s, want %s", promise, row[0], got, row[1])
		}
	}
}

// prints checks what programs print, how they end, and this among it: each line
// is a program, `=>`, and the lines, separated by a bar, and the end.
func prints(t *testing.T, promise, text string) {
	t.Helper()
	for _, row := range rows(text, "=>") {
		m := fresh(t)
		end := m.tell(m.run(row[0]))
		if got := strings.Join(append(m.Out(), end), " | "); got != row[1] {
			t.Errorf("%s: %s gives %s, want %s", promise, row[0], got, row[1])
		}
	}
}

// costs checks how much fuel programs use: each line is a program, `=>`, and
// the number of steps, as a sum.
func costs(t *testing.T, promise, text string) {
	t.Helper()
	for _, row := range rows(text, "=>") {
		want := 0
		for _, s := range strings.Split(row[1], "+") {
			n := 0
			if _, err := fmt.Sscan(s, &n); err != nil {
				t.Fatal(row, err)
			}
			want += n
		}
		m := fresh(t)
		m.run(row[0])
		if m.spent() != want {
			t.Errorf("%s: %s takes %d steps, want %d", promise, row[0], m.spent(), want)
		}
	}
}

func methodNames() []string {
	return strings.Split("? getPrototypeOf setPrototypeOf isExtensible preventExtensions getOwnPropertyDescriptor defineProperty has get set deleteProperty ownKeys call construct", " ")
}

// outer tells the calls of Do that no other one contains, as far as these ended
// well, with what is asked.
func (m machine) outer() []string {
	var l []string
	log := m.World().Log()
	for i := len(log) - 1; i >= 0; i = log[i].From - 1 {
		l = append([]string{m.asked(log[i])}, l...)
	}
	return l
}

func (m machine) asked(s api.Seen) string {
	text := fmt.Sprintf("%s of %d", methodNames()[s.Method], s.Thing)
	if s.Ask.Key != (api.Key{}) {
		text += " " + s.Ask.Key.Str
	}
	if s.Ask.Key.Sym != 0 {
		text += fmt.Sprint("symbol ", s.Ask.Key.Sym)
	}
	if s.Ask.Value != undefined {
		text += " " + brief(s.Ask.Value)
	}
	if s.Ask.Receiver != undefined {
		text += " on " + brief(s.Ask.Receiver)
	}
	for _, v := range s.Ask.List {
		text += " with " + brief(v)
	}
	return text
}

// brief is a value that is short, with the number of an object.
func brief(v api.Value) string {
	if v.Kind == api.Object {
		return fmt.Sprint("#", v.Num)
	}
	return values.Show(v, false)
}

// asks checks which methods programs perform directly: each line is a program,
// `=>`, and what asked tells of each, separated by a comma. Objects of the
// program have numbers from 32 on.
func asks(t *testing.T, promise, text string) {
	t.Helper()
	for _, row := range rows(text, "=>") {
		m := fresh(t)
		m.run(row[0])
		if got := strings.Join(m.outer(), ", "); got != row[1] {
			t.Errorf("%s: %s performs %s, want %s", promise, row[0], got, row[1])
		}
	}
}

// show takes lists that are nil and lists that are empty for the same.
func show(x any) string { return fmt.Sprintf("%+v", x) }

// same checks that two machines have done the same.
func same(t *testing.T, what string, a, b *mop.World) {
	t.Helper()
	fuelA, deepA := a.Left()
	fuelB, deepB := b.Left()
	if fuelA != fuelB || deepA != deepB {
		t.Fatalf("%s: fuel %d, depth %d; want %d, %d", what, fuelA, deepA, fuelB, deepB)
	}
	one, two := a.Log(), b.Log()
	for i := range max(len(one), len(two)) {
		if i >= len(one) || i >= len(two) || !alike(one[i], two[i]) {
			t.Fatalf("%s: the logs have %d and %d entries and differ at %d", what, len(one), len(two), i)
		}
	}
	if a.Heap.Len() != b.Heap.Len() {
		t.Fatalf("%s: %d objects, want %d", what, a.Heap.Len(), b.Heap.Len())
	}
	for o := range a.Heap.Len() {
		x, _ := a.Heap.Get(o)
		y, _ := b.Heap.Get(o)
		if !equal(x, y) {
			t.Fatalf("%s: the object %d is\n%+v, want\n%+v", what, o, x, y)
		}
	}
}

// alike tells whether two entries of logs are the same.
func alike(a, b api.Seen) bool {
	p, q := a.Ask, b.Ask
	r, s := a.Reply, b.Reply
	return a.Method == b.Method && a.Thing == b.Thing && a.From == b.From &&
		p.Key == q.Key && p.Value == q.Value && p.Receiver == q.Receiver && p.Desc == q.Desc && slices.Equal(p.List, q.List) &&
		r.Flow == s.Flow && r.Value == s.Value && r.OK == s.OK && r.Has == s.Has && r.Desc == s.Desc && slices.Equal(r.Keys, s.Keys)
}

// equal tells whether two objects are the same.
func equal(a, b api.Thing) bool {
	return a.Kind == b.Kind && a.Proto == b.Proto && a.Extensible == b.Extensible && slices.Equal(a.Props, b.Props) &&
		a.Code == b.Code && a.N == b.N && a.V == b.V && a.Target == b.Target && a.Handler == b.Handler &&
		a.This == b.This && slices.Equal(a.Args, b.Args) && a.Calls == b.Calls && a.Makes == b.Makes && a.Env == b.Env
}

// callerFunc is a Caller that is a function.
type callerFunc func(w *mop.World, f api.Thing, this api.Value, args []api.Value) api.Reply

func (c callerFunc) Call(w *mop.World, f api.Thing, this api.Value, args []api.Value) api.Reply {
	return c(w, f, this, args)
}

// with puts a text in the place of each `^`.
func with(source, text string) string { return strings.ReplaceAll(source, "^", text) }
