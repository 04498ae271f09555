package run

import (
	"strings"
	"testing"

	"understudy/api"
	"understudy/early"
	"understudy/parse"
)

// refuses checks that a source is not executed, and with which outcome.
func refuses(t *testing.T, source string, want api.Outcome) {
	t.Helper()
	short := source[:min(len(source), 60)]
	if got := Run([]byte(source), plenty()); show(got) != show(want) {
		t.Errorf("P2101: %q gives %+v, want %+v", short, got, want)
	}
	if l := Seen([]byte(source), plenty()); len(l) != 0 {
		t.Errorf("P2101: %q is not executed, but Seen has %d elements", short, len(l))
	}
}

// TestSyntaxErrors: P2101, an error of the grammar or of a token is told with
// its offset, whatever stands before it.
func TestSyntaxErrors(t *testing.T) {
	for source, at := range map[string]int{
		"a":                         1,
		"}":                         0,
		"print(1); a b":             12,
		"print(1); let 5;":          14,
		"print(1); var a;":          10,
		"1 = 2;":                    2,
		"delete a;":                 8,
		"try { }":                   7,
		"print(1); 'a":              10,
		`print(1); 'a\x'`:           12,
		"a; /*":                     3,
		"a; \xff":                   3,
		"a; '\xed\xa0\x80';":        4,
		"01;":                       0,
		"1; 9007199254740992;":      3,
		"1; #":                      3,
		"return 1":                  8,
		"break; )":                  7,
		"print(1); let a; let a; (": 25,
	} {
		refuses(t, source, api.Outcome{Tag: api.OSyntax, At: at})
	}
	text := `"` + strings.Repeat("x", api.MaxUnits+1) + `";`
	refuses(t, "a; "+text, api.Outcome{Tag: api.OSyntax, At: 3})
}

// TestLongSources: P2101, too long a source is a syntax error at its beginning.
func TestLongSources(t *testing.T) {
	fill := strings.Repeat(" ", api.MaxSource-2)
	if got := told(fill+"1;", plenty()); got != "value 1" {
		t.Errorf("P2101: a source of %d bytes gives %s", api.MaxSource, got)
	}
	for _, source := range []string{fill + " 1;", fill + "1; ", fill + "  )", fill + strings.Repeat("(", 200), fill + "\xff\xff\xff"} {
		refuses(t, source, api.Outcome{Tag: api.OSyntax})
	}
}

// TestDeepSources: P2101, too deep a nesting is told like a depth that is too
// great, but with an offset.
func TestDeepSources(t *testing.T) {
	nested := func(n int) string { return strings.Repeat("{", n) + "}" + strings.Repeat("}", n-1) }
	if got := told(nested(api.MaxNest), plenty()); got != "value undefined" {
		t.Errorf("P2101: %d blocks give %s", api.MaxNest, got)
	}
	refuses(t, nested(api.MaxNest+1), api.Outcome{Tag: api.ODeep, At: api.MaxNest})
	refuses(t, "print(1); "+strings.Repeat("{", 200), api.Outcome{Tag: api.ODeep, At: api.MaxNest + 10})
	refuses(t, strings.Repeat("!", 200), api.Outcome{Tag: api.ODeep, At: api.MaxNest - 2})
	refuses(t, "return; "+strings.Repeat("{", 101), api.Outcome{Tag: api.ODeep, At: api.MaxNest + 8})
	refuses(t, strings.Repeat("{", 101)+" 01;", api.Outcome{Tag: api.OSyntax, At: 102})
}

// TestEarlyErrors: P2101, an early error is told without an offset, and nothing
// of the program is executed.
func TestEarlyErrors(t *testing.T) {
	for _, source := range []string{
		"return;",
		"print(1); return 1;",
		"print(1); break;",
		"print(1); { continue; }",
		"while (1) { print(1); (function () { break; }); }",
		"print(1); let a; let a;",
		"print(1); let a; { const b = 1; function b() { } }",
		"print(1); function f(a, a) { }",
		"print(1); (function (a) { let a; });",
		"print(1); if (0) let a;",
		"print(1); while (0) function f() { }",
		"null.a; return;",
	} {
		refuses(t, source, api.Outcome{Tag: api.OSyntax})
	}
	gives(t, `
		(function () { return 1; })(); => value 1
		let a = 1; { let a = 2; } a; => value 1
		while (true) { break; } => value undefined`)
}

// TestLongKeys: P2101, a key that is written as a name may have more units than
// any string, and is then not the key of a valid program: that is an early
// error like others.
func TestLongKeys(t *testing.T) {
	key := strings.Repeat("k", api.MaxUnits)
	if got := told("let o = {"+key+": 5}; o."+key+";", plenty()); got != "value 5" {
		t.Errorf("P2101: a key of %d units gives %s", api.MaxUnits, got)
	}
	for _, source := range []string{"({" + key + "k: 5});", "print(1); ({" + key + "k: 5});"} {
		n, _, e := parse.Parse([]byte(source))
		if e != api.OK || early.Check(n) != api.ErrArg {
			t.Fatal("the key has become an error of another kind")
		}
		refuses(t, source, api.Outcome{Tag: api.OSyntax})
	}
}
