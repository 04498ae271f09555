package scope

import (
	"slices"
	"testing"

	"understudy/api"
)

func TestTwoScopesAreIndependent(t *testing.T) {
	for seed := range 50 {
		d := dice(seed)
		one, two := New(), New()
		first, second := &model{}, &model{}
		for range 60 {
			d.call(first).play(t, one, first)
			compare(t, two, second, "a", "b", "c")
			d.call(second).play(t, two, second)
			compare(t, one, first, "a", "b", "c")
		}
	}
	one, two := New(), New()
	begun(t, one, 0, "a", true, number(1))
	mustMake(t, one, 0, 1)
	lacks(t, two, 0, "a", 1)
	mustMake(t, two, 1, -1)
	mustMake(t, two, 0, 1)
	mustMake(t, New(), 0, 1)
}

// TestTheSameCallsGiveTheSame: results depend on the preceding calls alone, and
// asking is none that matters.
func TestTheSameCallsGiveTheSame(t *testing.T) {
	type answer struct {
		v     api.Value
		state int
	}
	play := func(asked bool) []answer {
		d := dice(7)
		s, m := New(), &model{}
		for range 300 {
			d.call(m).play(t, s, m)
			if asked {
				compare(t, s, &model{parents: m.parents, deeds: m.deeds}, "a", "b", "d")
			}
		}
		var out []answer
		for env := range len(m.parents) + 1 {
			for _, name := range []string{"a", "b", "c", "d"} {
				v, state := s.Get(env, name)
				out = append(out, answer{v, state})
			}
		}
		return out
	}
	first := play(false)
	if second, third := play(false), play(true); !slices.Equal(first, second) || !slices.Equal(first, third) {
		t.Error("P1702: the same calls give something else")
	}
}

// TestResultsStay: what was returned before does not follow the variable.
func TestResultsStay(t *testing.T) {
	s := New()
	begun(t, s, 0, "a", false, text("first"))
	first, _ := s.Get(0, "a")
	mustSet(t, s, 0, "a", text("second"), 0)
	if first != text("first") {
		t.Errorf("P1702: the result of Get has become %s", short(first))
	}
	first.Str = "spoilt"
	has(t, s, 0, "a", text("second"))
}
