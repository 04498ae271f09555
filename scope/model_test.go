package scope

import (
	"slices"
	"testing"

	"understudy/api"
)

// model is the chapter said again without scopes that hold names: it keeps the
// deeds that were done, and finds everything out from these.
type model struct {
	parents []int // of the scopes from 1 on
	deeds   []deed
}

// deed is something that was done to a name in a scope.
type deed struct {
	what string // let, const or value
	env  int
	name string
	v    api.Value
}

func (m *model) exists(env int) bool { return env >= 0 && env <= len(m.parents) }

func (m *model) done(what string, env int, name string) bool {
	return slices.ContainsFunc(m.deeds, func(d deed) bool { return d.what == what && d.env == env && d.name == name })
}

func (m *model) declared(env int, name string) bool {
	return m.done("let", env, name) || m.done("const", env, name)
}

// home returns the scope in which the name that is meant in env is declared, or
// a number that no scope has.
func (m *model) home(env int, name string) int {
	for m.exists(env) && !m.declared(env, name) {
		env = slices.Concat([]int{-1}, m.parents)[env]
	}
	return env
}

func (m *model) make(parent int) int {
	if !m.exists(parent) {
		return -1
	}
	m.parents = append(m.parents, parent)
	return len(m.parents)
}

func (m *model) let(env int, name string, fixed bool) bool {
	if !m.exists(env) || m.declared(env, name) {
		return false
	}
	d := deed{what: "let", env: env, name: name}
	if fixed {
		d.what = "const"
	}
	m.deeds = append(m.deeds, d)
	return true
}

func (m *model) begin(env int, name string, v api.Value) bool {
	if !m.declared(env, name) || m.done("value", env, name) {
		return false
	}
	m.deeds = append(m.deeds, deed{"value", env, name, v})
	return true
}

func (m *model) get(env int, name string) (api.Value, int) {
	home := m.home(env, name)
	if !m.declared(home, name) {
		return undefined(), 1
	}
	for _, d := range slices.Backward(m.deeds) {
		if d.what == "value" && d.env == home && d.name == name {
			return d.v, 0
		}
	}
	return undefined(), 2
}

func (m *model) set(env int, name string, v api.Value) int {
	home := m.home(env, name)
	if _, state := m.get(env, name); state != 0 {
		return state
	}
	if m.done("const", home, name) {
		return 3
	}
	m.deeds = append(m.deeds, deed{"value", home, name, v})
	return 0
}

// call is one that may change something.
type call struct {
	what, env int
	name      string
	v         api.Value
}

// play makes one call of both, and compares what they return.
func (c call) play(t *testing.T, s *Scopes, m *model) {
	t.Helper()
	switch c.what {
	case 0:
		mustMake(t, s, c.env, m.make(c.env))
	case 1:
		mustLet(t, s, c.env, c.name, false, m.let(c.env, c.name, false))
	case 2:
		mustLet(t, s, c.env, c.name, true, m.let(c.env, c.name, true))
	case 3:
		mustBegin(t, s, c.env, c.name, c.v, m.begin(c.env, c.name, c.v))
	case 4:
		mustSet(t, s, c.env, c.name, c.v, m.set(c.env, c.name, c.v))
	}
}

// compare tests that s is what m says, for all scopes and some that are none.
func compare(t *testing.T, s *Scopes, m *model, names ...string) {
	t.Helper()
	for env := -1; env <= len(m.parents)+1; env++ {
		for _, name := range names {
			want, state := m.get(env, name)
			gets(t, s, env, name, want, state)
		}
	}
}

// TestAllShortRows plays all rows of calls with two scopes and one name.
func TestAllShortRows(t *testing.T) {
	calls := []call{{what: 0, env: 0}}
	for env := range 2 {
		for what := 1; what <= 4; what++ {
			calls = append(calls, call{what, env, "a", number(0)})
		}
	}
	for long := range 7 {
		for row := range pow(len(calls), long) {
			s, m := New(), &model{}
			for n := range long {
				c := calls[row%len(calls)]
				row /= len(calls)
				c.v = number(n)
				c.play(t, s, m)
			}
			compare(t, s, m, "a")
		}
	}
}

func pow(n, times int) int {
	out := 1
	for range times {
		out *= n
	}
	return out
}

// dice is a row of numbers that looks like chance, and is always the same.
type dice uint64

func (d *dice) next(n int) int {
	*d = *d*6364136223846793005 + 1442695040888963407
	return int(uint64(*d)>>33) % n
}

// call returns any one, most often of a scope that exists.
func (d *dice) call(m *model) call {
	values := allValues()
	return call{
		what: d.next(5),
		env:  d.next(len(m.parents)+3) - 1,
		name: []string{"a", "b", "c"}[d.next(3)],
		v:    values[d.next(len(values))],
	}
}

func TestAgainstTheModel(t *testing.T) {
	for seed := range 300 {
		d := dice(seed)
		s, m := New(), &model{}
		for range 60 {
			d.call(m).play(t, s, m)
			compare(t, s, m, "a", "b", "c", "d")
		}
	}
}
