package scope

import (
	"slices"
	"strconv"
	"testing"

	"understudy/api"
)

func TestExample(t *testing.T) {
	lacks(t, New(), 0, "a", 1)
}

func TestScopeZeroExistsAtFirst(t *testing.T) {
	s := New()
	for _, name := range allNames() {
		lacks(t, s, 0, name, 1)
		begun(t, s, 0, name, false, text(name))
		has(t, s, 0, name, text(name))
	}
	lacks(t, s, 1, "a", 1)
	mustLet(t, s, 1, "a", false, false)
}

func TestScopesAreNumberedInTheOrderOfTheirCreation(t *testing.T) {
	s := New()
	for n := 1; n <= 200; n++ {
		mustMake(t, s, n/2, n)
		mustMake(t, s, n+1, -1)
		begun(t, s, n, "own", false, number(n))
	}
	for n := 1; n <= 200; n++ {
		has(t, s, n, "own", number(n))
	}
	lacks(t, s, 0, "own", 1)
}

func TestThereIsNoSuchScope(t *testing.T) {
	for made := 1; made <= 4; made++ {
		s := New()
		for n := 1; n < made; n++ {
			mustMake(t, s, n-1, n)
		}
		for n := range made {
			mustLet(t, s, n, "empty", false, true)
			begun(t, s, n, "a", false, number(n))
		}
		for _, env := range noScopes(made) {
			mustMake(t, s, env, -1)
			for _, name := range []string{"a", "empty", "b", ""} {
				mustLet(t, s, env, name, false, false)
				mustLet(t, s, env, name, true, false)
				mustBegin(t, s, env, name, number(9), false)
				mustSet(t, s, env, name, number(9), 1)
				lacks(t, s, env, name, 1)
			}
		}
		for n := range made {
			has(t, s, n, "a", number(n))
			lacks(t, s, n, "empty", 2)
			lacks(t, s, n, "b", 1)
		}
		mustMake(t, s, 0, made)
	}
}

// TestScopesThatWereNotMade: those that New did not make have not even scope 0.
func TestScopesThatWereNotMade(t *testing.T) {
	var s Scopes
	for _, env := range []int{0, 1, -1} {
		mustMake(t, &s, env, -1)
		mustLet(t, &s, env, "a", false, false)
		mustBegin(t, &s, env, "a", number(1), false)
		mustSet(t, &s, env, "a", number(1), 1)
		lacks(t, &s, env, "a", 1)
	}
}

func TestANameWithoutAValue(t *testing.T) {
	for _, fixed := range []bool{false, true} {
		s := New()
		mustLet(t, s, 0, "a", fixed, true)
		for range 2 {
			lacks(t, s, 0, "a", 2)
			mustSet(t, s, 0, "a", number(1), 2)
		}
		mustBegin(t, s, 0, "a", number(2), true)
		has(t, s, 0, "a", number(2))
	}
}

func TestBeginGivesTheFirstValueAlone(t *testing.T) {
	for _, fixed := range []bool{false, true} {
		for _, v := range allValues() {
			s := New()
			begun(t, s, 0, "a", fixed, v)
			has(t, s, 0, "a", v)
			mustBegin(t, s, 0, "a", number(3), false)
			mustBegin(t, s, 0, "a", v, false)
			has(t, s, 0, "a", v)
		}
	}
}

func TestSetReplacesTheValueOfAVariable(t *testing.T) {
	for _, first := range allValues() {
		s := New()
		begun(t, s, 0, "a", false, first)
		begun(t, s, 0, "b", false, first)
		for _, v := range allValues() {
			mustSet(t, s, 0, "a", v, 0)
			has(t, s, 0, "a", v)
			has(t, s, 0, "b", first)
			mustBegin(t, s, 0, "a", first, false)
			has(t, s, 0, "a", v)
		}
	}
}

func TestSetDoesNotReplaceTheValueOfAConstant(t *testing.T) {
	for _, first := range allValues() {
		s := New()
		begun(t, s, 0, "a", true, first)
		for _, v := range allValues() {
			mustSet(t, s, 0, "a", v, 3)
			has(t, s, 0, "a", first)
		}
	}
}

func TestSetDeclaresNothing(t *testing.T) {
	s := New()
	mustMake(t, s, 0, 1)
	for env := range 2 {
		mustSet(t, s, env, "a", number(1), 1)
		mustBegin(t, s, env, "a", number(1), false)
		lacks(t, s, env, "a", 1)
	}
	mustLet(t, s, 1, "a", false, true)
	lacks(t, s, 1, "a", 2)
	lacks(t, s, 0, "a", 1)
}

// TestASecondLet neither takes the value away nor makes a variable a constant,
// or a constant a variable.
func TestASecondLet(t *testing.T) {
	for _, fixed := range []bool{false, true} {
		for _, again := range []bool{false, true} {
			s := New()
			mustLet(t, s, 0, "a", fixed, true)
			mustLet(t, s, 0, "a", again, false)
			lacks(t, s, 0, "a", 2)
			mustBegin(t, s, 0, "a", number(1), true)
			mustLet(t, s, 0, "a", again, false)
			has(t, s, 0, "a", number(1))
			if fixed {
				mustSet(t, s, 0, "a", number(2), 3)
				has(t, s, 0, "a", number(1))
			} else {
				mustSet(t, s, 0, "a", number(2), 0)
				has(t, s, 0, "a", number(2))
			}
			mustLet(t, s, 0, "a", again, false)
		}
	}
}

func TestNamesAreDifferent(t *testing.T) {
	s := New()
	for i, name := range allNames() {
		lacks(t, s, 0, name, 1)
		mustLet(t, s, 0, name, i%2 == 0, true)
		lacks(t, s, 0, name, 2)
	}
	for i, name := range allNames() {
		lacks(t, s, 0, name, 2)
		mustBegin(t, s, 0, name, number(i), true)
	}
	for i, name := range allNames() {
		has(t, s, 0, name, number(i))
		mustLet(t, s, 0, name, false, false)
		if i%2 == 0 {
			mustSet(t, s, 0, name, number(-i), 3)
		} else {
			mustSet(t, s, 0, name, number(i+100), 0)
		}
	}
	for i, name := range allNames() {
		if i%2 == 1 {
			i += 100
		}
		has(t, s, 0, name, number(i))
	}
}

// family is scope 0 with the children 1 and 2, 3 and 4 in 1, and 5 in 3.
func family(t *testing.T) *Scopes {
	s := New()
	for n, parent := range []int{0, 0, 1, 1, 3} {
		mustMake(t, s, parent, n+1)
	}
	return s
}

// inside tells for each scope of the family which ones see what it declares.
func inside() [][]int {
	return [][]int{{0, 1, 2, 3, 4, 5}, {1, 3, 4, 5}, {2}, {3, 5}, {4}, {5}}
}

func TestANameIsSeenInItsScopeAndWhatIsWithin(t *testing.T) {
	for env, list := range inside() {
		for _, fixed := range []bool{false, true} {
			s := family(t)
			for n := range 6 {
				lacks(t, s, n, "a", 1)
			}
			mustLet(t, s, env, "a", fixed, true)
			for n := range 6 {
				want := 1
				if slices.Contains(list, n) {
					want = 2
				}
				lacks(t, s, n, "a", want)
				mustSet(t, s, n, "a", number(3), want)
				if n != env {
					mustBegin(t, s, n, "a", number(3), false)
				}
			}
			mustBegin(t, s, env, "a", number(4), true)
			for n := range 6 {
				if slices.Contains(list, n) {
					has(t, s, n, "a", number(4))
				} else {
					lacks(t, s, n, "a", 1)
					mustSet(t, s, n, "a", number(5), 1)
				}
			}
		}
	}
}

func TestSetFromWithin(t *testing.T) {
	for env, list := range inside() {
		s := family(t)
		begun(t, s, env, "a", false, number(0))
		for _, from := range list {
			mustSet(t, s, from, "a", number(from+10), 0)
			for _, n := range list {
				has(t, s, n, "a", number(from+10))
			}
		}
		s = family(t)
		begun(t, s, env, "a", true, number(0))
		for _, from := range list {
			mustSet(t, s, from, "a", number(from+10), 3)
			for _, n := range list {
				has(t, s, n, "a", number(0))
			}
		}
	}
}

// TestTheFirstScopeCounts: a name that is declared further in hides that of the
// same name further out, whatever the two are.
func TestTheFirstScopeCounts(t *testing.T) {
	for env, list := range inside() {
		if env == 0 {
			continue
		}
		for _, outer := range []bool{false, true} {
			for _, inner := range []bool{false, true} {
				s := family(t)
				begun(t, s, 0, "a", outer, number(1))
				mustLet(t, s, env, "a", inner, true)
				for _, n := range list {
					lacks(t, s, n, "a", 2)
					mustSet(t, s, n, "a", number(2), 2)
				}
				mustBegin(t, s, env, "a", number(3), true)
				now := number(3)
				for _, n := range list {
					now = try(t, s, n, inner, now, number(n+10))
					has(t, s, env, "a", now)
					has(t, s, 0, "a", number(1))
				}
				try(t, s, 0, outer, number(1), number(4))
				has(t, s, env, "a", now)
			}
		}
	}
}

// try sets the name to next in env, and returns the value that it has now.
func try(t *testing.T, s *Scopes, env int, fixed bool, now, next api.Value) api.Value {
	t.Helper()
	has(t, s, env, "a", now)
	if fixed {
		mustSet(t, s, env, "a", next, 3)
		next = now
	} else {
		mustSet(t, s, env, "a", next, 0)
	}
	has(t, s, env, "a", next)
	return next
}

func TestBeginAndLetMeanTheScopeItself(t *testing.T) {
	s := family(t)
	mustLet(t, s, 1, "a", false, true)
	for _, n := range []int{0, 2, 3, 4, 5} {
		mustBegin(t, s, n, "a", number(1), false)
	}
	lacks(t, s, 5, "a", 2)
	for _, n := range []int{0, 2, 3, 4, 5} {
		begun(t, s, n, "a", true, number(n))
	}
	lacks(t, s, 1, "a", 2)
	mustBegin(t, s, 1, "a", number(1), true)
	for n := range 6 {
		has(t, s, n, "a", number(n))
	}
}

// TestWhatIsDeclaredLater counts as well: what a name means is found out anew
// each time.
func TestWhatIsDeclaredLater(t *testing.T) {
	s := family(t)
	begun(t, s, 0, "a", false, number(1))
	has(t, s, 5, "a", number(1))
	mustLet(t, s, 3, "a", false, true)
	lacks(t, s, 5, "a", 2)
	has(t, s, 4, "a", number(1))
	mustBegin(t, s, 3, "a", number(2), true)
	has(t, s, 5, "a", number(2))
	mustSet(t, s, 5, "a", number(3), 0)
	begun(t, s, 5, "a", true, number(4))
	mustSet(t, s, 5, "a", number(5), 3)
	has(t, s, 3, "a", number(3))
	has(t, s, 1, "a", number(1))
	mustMake(t, s, 3, 6)
	mustMake(t, s, 5, 7)
	has(t, s, 6, "a", number(3))
	has(t, s, 7, "a", number(4))
}

// TestDeepScopes: with a recursion that is not bounded, or steps that grow with
// the number of all scopes, this would not end well.
func TestDeepScopes(t *testing.T) {
	const deep = 300000
	s := New()
	begun(t, s, 0, "a", false, number(-1))
	for n := 1; n <= deep; n++ {
		mustMake(t, s, n-1, n)
		if n%1000 == 0 {
			begun(t, s, n, strconv.Itoa(n), false, number(n))
		}
	}
	has(t, s, deep, "a", number(-1))
	lacks(t, s, deep, "b", 1)
	mustSet(t, s, deep, "a", number(-2), 0)
	has(t, s, 0, "a", number(-2))
	for n := 1000; n <= deep; n += 1000 {
		has(t, s, n, strconv.Itoa(n), number(n))
		lacks(t, s, n-1, strconv.Itoa(n), 1)
	}
}

// TestManyNames: with steps that grow with the number of names, this would not
// end in time.
func TestManyNames(t *testing.T) {
	const many = 200000
	s := New()
	for n := range many {
		mustMake(t, s, 0, n+1)
		begun(t, s, 0, strconv.Itoa(n), false, number(n))
		begun(t, s, n+1, "a", false, number(n))
	}
	for n := range many {
		mustLet(t, s, 0, strconv.Itoa(n), false, false)
		mustSet(t, s, n+1, strconv.Itoa(n), number(-n), 0)
	}
	for n := range many {
		has(t, s, many-n, strconv.Itoa(n), number(-n))
		has(t, s, n+1, "a", number(n))
	}
}
