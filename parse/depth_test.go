package parse

import (
	"strings"
	"testing"

	"understudy/api"
)

// opener is the beginning of something that nests, and how much deeper what
// follows it is. One with a statement inside stands where a statement may
// stand, one with an expression inside where an expression may stand, and one
// with an operand inside where an operand may stand.
type opener struct {
	open, close string
	deeper      int
}

// around are statements around a statement.
func around() []opener {
	return []opener{
		{"{", "}", 1}, {"{ a; {} ", " b; }", 1}, {"if (a) ", "", 1}, {"if (a) ; else ", "", 1}, {"while (a) ", "", 1},
		{"try {", "} finally {}", 1}, {"try {} catch (e) {", "}", 1}, {"try {} catch (e) {} finally {", "}", 1},
		{"function f() {", "}", 1}, {"(function () {", "});", 5}, {"x = function f(a) {", "};", 4},
		{"({get a() {", "}});", 5}, {"({set a(b) {", "}});", 5}, {"return function () {", "};", 3},
		{"if (function () {", "}) ;", 3},
	}
}

// within are expressions around an expression.
func within() []opener {
	return []opener{
		{"(", ")", 2}, {"[", "]", 2}, {"[a, ", "]", 2}, {"a(", ")", 2}, {"a(b, ", ", c)", 2}, {"a[", "]", 2},
		{"new a(", ")", 2}, {"new a[", "]()", 2}, {"new (", ")()", 2}, {"({a: ", "})", 4}, {"({[", "]: a})", 4},
		{"({[a]: ", ", b: c})", 4}, {"a = ", "", 1}, {"a.b = ", "", 1}, {"a ? ", " : b", 1}, {"a ? b : ", "", 1},
		{"a + (", ") * b", 2}, {"!(", ")", 3}, {"delete a[", "]", 3},
	}
}

// before are operators before an operand.
func before() []opener {
	return []opener{{"!", "", 1}, {"-", "", 1}, {"typeof ", "", 1}, {"- typeof ! ", "", 3}, {"delete (", ").b", 3}}
}

// nest puts openers of list into one another, from the one with number from
// on, by turns, as long as they are not deeper than most in all, and returns
// what they begin and end with and how deep they are.
func nest(list []opener, from, most int) opener {
	all := opener{}
	for i := from; ; i++ {
		o := list[i%len(list)]
		if all.deeper+o.deeper > most {
			return all
		}
		all = opener{all.open + o.open, o.close + all.close, all.deeper + o.deeper}
	}
}

// nests returns each of list alone in itself and all of them in turn, from each
// of them on, up to every depth from most-6 to most.
func nests(list []opener, most int) []opener {
	var all []opener
	for i := range list {
		for less := range 7 {
			all = append(all, nest(list[i:i+1], 0, most-less), nest(list, i, most-less))
		}
	}
	return all
}

// accepts tests that source is a program.
func accepts(t *testing.T, source string) {
	t.Helper()
	if n, at, e := Parse([]byte(source)); e != api.OK || at != 0 || n.Kind != api.SProgram {
		t.Errorf("P1303: Parse(%.300q): error %d at %d", source, e, at)
	}
}

// deep tests that marked without its mark is too deep there.
func deep(t *testing.T, marked string) {
	t.Helper()
	refuses(t, "P1303", marked, api.ErrDeep)
}

func times(n int, s string) string { return strings.Repeat(s, n) }

func TestNestedStatements(t *testing.T) {
	for _, o := range nests(around(), api.MaxNest-3) {
		room := api.MaxNest - o.deeper
		accepts(t, o.open+times(room, "{")+times(room, "}")+o.close)
		deep(t, o.open+times(room, "{")+"^;"+times(room, "}")+o.close)
		accepts(t, o.open+times(room-1, "{")+";"+times(room-1, "}")+o.close)
		deep(t, o.open+times(room-1, "{")+"^a;"+times(room-1, "}")+o.close)
	}
}

func TestNestedExpressions(t *testing.T) {
	for _, o := range nests(within(), api.MaxNest-3) {
		room := api.MaxNest - 3 - o.deeper
		for _, statement := range []string{"", "let x = ", "return ", "throw "} {
			accepts(t, statement+o.open+times(room, "!")+"a"+o.close+";")
			deep(t, statement+o.open+times(room+1, "!")+"^a"+o.close+";")
		}
		accepts(t, "if ("+o.open+times(room, "- ")+"a"+o.close+") a;")
		deep(t, "while ("+o.open+times(room+1, "- ")+"^a"+o.close+") a;")
	}
}

func TestNestedOperands(t *testing.T) {
	for _, o := range nests(before(), api.MaxNest-3) {
		room := api.MaxNest - 3 - o.deeper
		accepts(t, o.open+times(room, "!")+"a"+o.close+";")
		deep(t, o.open+times(room+1, "!")+"^a"+o.close+";")
		accepts(t, "b * "+o.open+times(room, "- ")+"a"+o.close+" + b;")
		deep(t, "b * "+o.open+times(room+1, "- ")+"^a"+o.close+" + b;")
	}
}

// blocks puts inner into n blocks.
func blocks(n int, inner string) string { return times(n, "{") + inner + times(n, "}") }

func TestAsDeepAsMayBe(t *testing.T) {
	for _, s := range []string{
		";", "{}", "{} ; {}", "break;", "continue;", "return;", "let x;", "try {} finally {}", "try {} catch (e) {} finally {}",
		"function f() {}", "function f(a, b) {} ;",
	} {
		accepts(t, blocks(api.MaxNest-1, s))
		deep(t, blocks(api.MaxNest, "^"+s))
	}
	for _, s := range []string{
		"^a;", "let x = ^a;", "const x = ^a;", "return ^a;", "throw ^a;", "if (^a) {}", "if (^a) {} else {}", "while (^a) ;",
		"^a + a * a || a;", "^a.a.a;", "^a()()();", "^[];", "^new a() + new a();", "^1; 2;",
	} {
		accepts(t, blocks(api.MaxNest-3, strings.ReplaceAll(s, "^", "")))
		deep(t, blocks(api.MaxNest-2, s))
		deep(t, blocks(api.MaxNest-1, s))
	}
}

// What stands beside something, or behind it, is no deeper.
func TestWhatDoesNotNest(t *testing.T) {
	const many = 2000
	for _, s := range []string{
		times(many, "a;"), times(many, "{}"), times(many, "{a;}"), times(many, "if (a) b; else c;"),
		"a" + times(many, ".b") + ";", "a" + times(many, "[b]") + ";", "a" + times(many, "()") + ";", "a" + times(many, "(b)") + ";",
		"new a" + times(many, ".b") + "();", "a" + times(many, " + a") + ";", "a" + times(many, " && a") + ";",
		"a" + times(many, " || a") + ";", "a" + times(many, " === a") + ";", "a" + times(many, " in a") + ";",
		"a" + times(many, " * -a") + ";", "[a" + times(many, ", a") + "];", "a(b" + times(many, ", (b)") + ");",
		"x = {a: b" + times(many, ", a: b") + "};", "x = {get a() {}" + times(many, ", get a() { b; }") + "};",
		"try { a; } catch (e) { a; } finally { a; }", times(many, "f(function () { a; });"),
	} {
		accepts(t, s)
	}
}

// everyToken has each of the words and punctuators, a name, a number and a
// string.
func everyToken() []string {
	all := append(words(), "a", "get", "7", "'a'")
	return append(all, strings.Fields("=== !== && || <= >= { } ( ) [ ] ; , . ? : = < > + - * / % !")...)
}

// deepPlaces are texts behind which a statement, an expression or an operand
// begins that is nested too deep unless one of the tokens that are separated by
// spaces follows.
func deepPlaces() map[string]string {
	const simple = "; { let const function return try break continue"
	all := map[string]string{
		times(100, "{"):            "}",
		times(99, "{"):             "} if while throw " + simple,
		times(98, "{"):             "} if while throw " + simple,
		times(99, "{") + "return ": ";",
		times(98, "{") + "return ": ";",
	}
	for s, closers := range map[string]string{
		"function () {": "}", "{get a() {": "}", "{set a(b) {": "}", "{[": "", "{a: ": "", "[": "]", "b = ": "",
	} {
		all[times(96, "{")+"x = "+s] = closers
	}
	for _, s := range []string{"let x = ", "const x = ", "throw ", "if (", "while ("} {
		all[times(99, "{")+s], all[times(98, "{")+s] = "", ""
	}
	for s, closers := range map[string]string{
		"(": "", "[": "]", "a(": ")", "a()(": ")", "a[": "", "a = ": "", "a ? ": "", "new a(": ")", "new a[": "",
		"a.b = ": "", "!": "", "-": "", "typeof ": "", "delete ": "", "a + !": "", "a && [": "]", "new (": "",
	} {
		all[times(97, "{")+s] = closers
	}
	return all
}

func TestTooDeepWhateverTheTokenIs(t *testing.T) {
	for place, closers := range deepPlaces() {
		deep(t, place+"^")
		deep(t, place+" // end\n^")
		for _, token := range everyToken() {
			_, at, e := Parse([]byte(place + " " + token))
			if isIn := strings.Contains(" "+closers+" ", " "+token+" "); isIn {
				if e == api.ErrDeep && at == len(place)+1 {
					t.Errorf("P1303: %q ends or goes on with %q, but that is too deep", place, token)
				}
				continue
			}
			for _, after := range []string{"", ";", ") ] } :", "a b c {", times(300, "{")} {
				deep(t, place+" ^"+token+" "+after)
			}
		}
	}
}

// Where nothing begins, what can not follow is an error of the grammar.
func TestAsDeepAsMayBeButWrong(t *testing.T) {
	for _, s := range []string{
		"a ^b", "a ^!b", "a ^)", "a ^]", "a ^}", "a ^:", "a ^", "a. ^1", "a. ^;", "a. ^", "a() ^b", "1 ^= a", "a + b ^= c",
		"new a ^;", "new a.^(", "throw ^;", "a + ^;", "a * ^)", "a + b - ^", "^else", "^)", "^*", "^",
	} {
		refuses(t, "P1303", times(97, "{")+s, api.ErrSyntax)
	}
	for _, s := range []string{
		"let ^;", "let x ^.", "let ^1", "let x ^y", "break ^a", "const x ^;", "function ^(", "function f ^{}", "function f(^1)",
		"if ^)", "while ^;", "try ^;", "try ^a", "try {} ^}", "try {} ^a", "try {} catch ^a", "try {} catch (^)",
	} {
		refuses(t, "P1303", times(99, "{")+s, api.ErrSyntax)
	}
	refuses(t, "P1303", times(100, "{")+times(100, "}")+"^}", api.ErrSyntax)
	refuses(t, "P1303", times(100, "{")+times(99, "}")+"^)", api.ErrSyntax)
	refuses(t, "P1303", times(97, "{")+"^", api.ErrSyntax)
	refuses(t, "P1303", times(50, "{")+"^", api.ErrSyntax)
}

func TestTheFirstErrorCounts(t *testing.T) {
	tooDeep := times(200, "(")
	for _, s := range []string{"a ^b; ", "1 ^= ", "let ^1 = ", "try {} ^", "a. ^"} {
		refuses(t, "P1303", s+tooDeep, api.ErrSyntax)
	}
	deep(t, times(49, "(")+"^"+tooDeep)
	deep(t, times(49, "(")+"^( a b c")
	deep(t, times(49, "(")+"^( 1 = 2")
	refuses(t, "P1303", tooDeep+"^#", api.ErrSyntax)
	refuses(t, "P1303", "^"+times(api.MaxSource+1, "("), api.ErrLong)
}
