package early

import (
	"strings"
	"testing"

	"understudy/api"
)

// frame is a statement in which another one stands at the mark.
type frame struct {
	source   string
	function bool // the mark is in a function of the frame
	loop     bool // it is in a loop of the frame, and in no function within that
	branch   bool // it is directly after `if`, `else` or `while`
	declares bool // the frame is a declaration
	wrong    bool // the frame has an early error, whatever stands at the mark
}

// framesOf makes frames that are alike but for their sources.
func framesOf(f frame, sources string) []frame {
	var list []frame
	for s := range strings.SplitSeq(sources, "|") {
		f.source = strings.TrimSpace(s)
		list = append(list, f)
	}
	return list
}

// frames has each form of a statement that has statements in it.
func frames() []frame {
	var list []frame
	for _, l := range [][]frame{
		framesOf(frame{}, `{ ^ } | { ; ^ ; } | { { } ^ { } } | { while (a) { } ^ } | { function s() { } ^ }
			| if (a) { ^ } | if (a) { ^ } else ; | if (a) ; else { ^ }
			| try { ^ } catch (e) { } | try { ^ } finally { } | try { } catch (e) { ^ } | try { } finally { ^ }
			| try { } catch (e) { ^ } finally { } | try { } catch (e) { } finally { ^ }`),
		framesOf(frame{branch: true}, "if (a) ^ | if (a) ^ else ; | if (a) ; else ^ | if (a) { } else if (b) ; else ^"),
		framesOf(frame{loop: true}, "while (a) { ^ } | while (a) { ; ^ ; } | while (a) if (b) ; else { ^ } | while (a) try { } finally { ^ }"),
		framesOf(frame{loop: true, branch: true}, "while (a) ^ | while (a) while (b) ^ | while (a) if (b) ^"),
		framesOf(frame{function: true}, `(function () { ^ }); | (function f(a, b) { ; ^ ; }); | ({get a() { ^ }}); | ({set a(v) { ^ }});
			| while (function () { ^ }) ; | if (function () { ^ }) ; | while (a) throw function () { ^ };`),
		framesOf(frame{function: true, declares: true}, "function f() { ^ } | function f(g) { ; ^ ; } | let l = function () { ^ }; | const c = {set a(v) { ^ }};"),
		framesOf(frame{function: true, loop: true}, "(function () { while (a) { ^ } }); | while (a) while (function () { while (b) { ^ } }) ;"),
	} {
		list = append(list, l...)
	}
	return list
}

// within returns outer with inner at its mark.
func within(outer, inner frame) frame {
	return frame{
		source:   filled(outer.source, inner.source),
		function: outer.function || inner.function,
		loop:     inner.loop || outer.loop && !inner.function,
		branch:   inner.branch,
		declares: outer.declares,
		wrong:    outer.wrong || inner.wrong || outer.branch && inner.declares,
	}
}

// fits tests the statements that may not stand everywhere, and some that may,
// at the mark of f.
func fits(t *testing.T, f frame) {
	t.Helper()
	for sources, ok := range map[string]bool{
		"return; | return a;":                        f.function,
		"break; | continue;":                         f.loop,
		"let x; | let x = 1;":                        !f.branch,
		"const x = 1;":                               !f.branch,
		"function x() { }":                           !f.branch,
		"x; | ; | { let x; }":                        true,
		"(function x() { });":                        true,
		"while (a) break;":                           true,
		"while (a) continue;":                        true,
		"throw {get x() { }};":                       true,
		"if (a) return; else ;":                      f.function,
		"if (a) ; else break;":                       f.loop,
		"{ continue; }":                              f.loop,
		"while (a) return;":                          f.function,
		"{ if (a) let x; }":                          false,
		"(function () { break; });":                  false,
		"while (function () { continue; }) ;":        false,
		"while (a) { (function () { continue; }); }": false,
	} {
		for s := range strings.SplitSeq(sources, " | ") {
			want := api.OK
			if f.wrong || !ok {
				want = api.ErrSyntax
			}
			checked(t, filled(f.source, s), want)
		}
	}
}

func TestStatementsInPrograms(t *testing.T) {
	for _, s := range []string{"^", "; ^", "^ ;", "{ } ^ { }", "while (a) { } ^", "while (a) ; ^", "^ while (a) ;", "if (a) ; ^", "if (a) ; else ; ^", "function f() { } ^", "(function () { }); ^", "^ function f() { }"} {
		fits(t, frame{source: s})
	}
}

func TestStatementsInStatements(t *testing.T) {
	list := frames()
	for _, a := range list {
		fits(t, a)
		for _, b := range list {
			fits(t, within(a, b))
			if t.Failed() {
				return
			}
		}
	}
}

func TestStatementsInStatementsInStatements(t *testing.T) {
	var list []frame
	for i, f := range frames() {
		if i%3 == 0 || f.loop || f.declares {
			list = append(list, f)
		}
	}
	for _, a := range list {
		for _, b := range list {
			for _, c := range list {
				fits(t, within(a, within(b, c)))
				if t.Failed() {
					return
				}
			}
		}
	}
}

// spots has each place that an expression may have in a statement.
func spots() []string {
	list := strings.Split("^;|let l = ^;|const c = ^;|if (^) ;|if (^) ; else ;|while (^) ;|throw ^;|[^];|[a, ^, b];"+
		"|({a: ^});|({[^]: a});|({a: b, [c]: ^});|^.a;|^[a];|a[^];|^();|a(^);|a(b, ^);|new ^();|new a(^);|new a(b, ^, c);"+
		"|!^;|-^;|typeof ^;|delete ^.a;|delete ^[a];|delete a[^];|^ ? a : b;|a ? ^ : b;|a ? b : ^;|a = ^;|^.a = b;|^[a] = b;|a[^] = b;|a.b = ^;", "|")
	for sign := range strings.FieldsSeq("=== !== < > <= >= in + - * / % && ||") {
		list = append(list, "^ "+sign+" a;", "a "+sign+" ^;")
	}
	return list
}

// Errors are found wherever a function stands, and `return` is allowed there.
func TestFunctionsInExpressions(t *testing.T) {
	for _, s := range spots() {
		for f := range strings.SplitSeq("(function () { ^ })|(function f(a) { ^ })|({get a() { ^ }})|({set a(v) { ^ }})|({a: 1, get b() { ; ^ }, c: 2})", "|") {
			fits(t, frame{source: filled(s, f), function: true})
			fits(t, frame{source: "while (a) { " + filled(s, f) + " }", function: true})
		}
		for f := range strings.SplitSeq("function (p, p) { }|function (p) { const p = 1; }|function () { let p; let p; }|{set a(p) { function p() { } }}", "|") {
			checked(t, filled(s, "("+f+")"), api.ErrSyntax)
		}
	}
	fits(t, frame{source: "(function () { return function () { ^ }; });", function: true})
	fits(t, frame{source: "(function () { return [{get a() { ^ }}]; });", function: true})
}
