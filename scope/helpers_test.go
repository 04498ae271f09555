package scope

import (
	"fmt"
	"math"
	"strings"
	"testing"

	"understudy/api"
)

func number(n int) api.Value { return api.Value{Kind: api.Number, Num: n} }

func text(s string) api.Value { return api.Value{Kind: api.String, Str: s} }

func undefined() api.Value { return api.Value{Kind: api.Undefined} }

// short returns the start of v, since strings may be long.
func short(v api.Value) string { return fmt.Sprintf("{%d %d %.40q}", v.Kind, v.Num, v.Str) }

// allValues are values of all kinds, valid and not: a scope takes each.
func allValues() []api.Value {
	return []api.Value{
		undefined(), {Kind: api.Null}, {Kind: api.Bool}, {Kind: api.Bool, Num: 1}, number(0), number(-7), number(math.MaxInt),
		text(""), text("a"), text("\U0001F600"), text("\xed\xa0\xbd"), text("\xff"), text(strings.Repeat("a", 100000)),
		{Kind: api.Symbol, Num: 1}, {Kind: api.Object}, {Kind: api.Object, Num: 5},
		{Num: 1}, {Str: "a"}, {Kind: -1}, {Kind: 77, Num: math.MinInt, Str: "\x00"},
	}
}

// allNames are names that a scope must tell apart.
func allNames() []string {
	return []string{
		"", "a", "A", "b", "ab", "a ", " a", "a\x00", "a\n", "aa", "á", "a\u0301", "\u0430", "ａ", "\xff", "\xfe", "\xed\xa0\xbd", "\uFFFD", "\U0001F600",
		"0", "00", "-1", "undefined", "this", "let", "__proto__", "prototype", strings.Repeat("a", 100000), strings.Repeat("a", 99999),
	}
}

// noScopes are numbers that no scope has, if there are n of them.
func noScopes(n int) []int {
	return []int{-1, -2, -n, n, n + 1, 2 * n, math.MinInt32, math.MaxInt32, math.MinInt, math.MaxInt, 1 << 32, -1 << 32, 1<<32 + n - 1}
}

func mustMake(t *testing.T, s *Scopes, parent, want int) {
	t.Helper()
	if got := s.Make(parent); got != want {
		t.Fatalf("P1701: Make(%d) = %d, want %d", parent, got, want)
	}
}

func mustLet(t *testing.T, s *Scopes, env int, name string, fixed, want bool) {
	t.Helper()
	if got := s.Let(env, name, fixed); got != want {
		t.Fatalf("P1701: Let(%d, %.20q, %v) = %v", env, name, fixed, got)
	}
}

func mustBegin(t *testing.T, s *Scopes, env int, name string, v api.Value, want bool) {
	t.Helper()
	if got := s.Begin(env, name, v); got != want {
		t.Fatalf("P1701: Begin(%d, %.20q, %s) = %v", env, name, short(v), got)
	}
}

func mustSet(t *testing.T, s *Scopes, env int, name string, v api.Value, want int) {
	t.Helper()
	if got := s.Set(env, name, v); got != want {
		t.Fatalf("P1701: Set(%d, %.20q, %s) = %d, want %d", env, name, short(v), got, want)
	}
}

// has tests that Get returns a value.
func has(t *testing.T, s *Scopes, env int, name string, want api.Value) {
	t.Helper()
	gets(t, s, env, name, want, 0)
}

// lacks tests that Get returns no value.
func lacks(t *testing.T, s *Scopes, env int, name string, state int) {
	t.Helper()
	gets(t, s, env, name, api.Value{}, state)
}

func gets(t *testing.T, s *Scopes, env int, name string, want api.Value, state int) {
	t.Helper()
	if got, n := s.Get(env, name); got != want || n != state {
		t.Fatalf("P1701: Get(%d, %.20q) = %s, %d, want %s, %d", env, name, short(got), n, short(want), state)
	}
}

// begun declares a name and gives it its first value.
func begun(t *testing.T, s *Scopes, env int, name string, fixed bool, v api.Value) {
	t.Helper()
	mustLet(t, s, env, name, fixed, true)
	mustBegin(t, s, env, name, v, true)
}
