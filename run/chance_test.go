package run

import (
	"reflect"
	"slices"
	"strings"
	"testing"

	"understudy/api"
	"understudy/early"
	"understudy/eval"
	"understudy/parse"
	"understudy/values"
)

// dice are numbers by chance, always the same ones.
type dice uint64

func (d *dice) roll(n int) int {
	*d = *d*6364136223846793005 + 1442695040888963407
	return int(uint64(*d)>>33) % n
}

func (d *dice) pick(l ...string) string { return l[d.roll(len(l))] }

// program is one in which proxies of proxies are used in all ways while their
// targets are closed step by step. Some handlers lie, and some begin to do so
// in the middle.
func (d *dice) program() string {
	l := []string{
		"let lying = false; function fails() { null.a; }",
		"let a = " + d.target() + "; let b = " + d.proxy("a") + ";",
		"let c = " + d.proxy("b") + "; let d = " + d.target() + ";",
		"let f = function (x, y) { print(this === undefined, x); " + d.pick("", "return x;", "this.z = y;", "throw x;") + " };",
	}
	for range d.roll(3) {
		l = append(l, "Reflect.defineProperty("+d.pick("a", "b")+", '"+d.key()+"', {"+d.parts()+"});")
	}
	if d.roll(2) == 0 {
		l = append(l, d.pick("Object.freeze", "Object.seal", "Reflect.preventExtensions", "Reflect.isExtensible")+"("+d.pick("a", "a", "b")+");")
	}
	uses := func(most int) {
		for range d.roll(most + 1) {
			l = append(l, d.guarded(d.use()))
		}
	}
	uses(6)
	if d.roll(2) == 0 {
		l = append(l, "try { Reflect.isExtensible(b); Reflect.getPrototypeOf(b); Reflect.getOwnPropertyDescriptor(b, 'x'); Reflect.ownKeys(b); } catch (e) { }")
	}
	l = append(l, "lying = true;")
	uses(8)
	return strings.Join(append(l, d.last()), "\n")
}

// guarded is a statement that prints what has become of an expression.
func (d *dice) guarded(s string) string {
	switch d.roll(12) {
	case 0:
		return s
	case 1:
		return "try { " + s + " } finally { print(0); }"
	}
	return "try { print(" + strings.TrimSuffix(s, ";") + "); } catch (e) { print(typeof e, e); }"
}

func (d *dice) key() string { return d.pick("x", "x", "x", "y", "length", "z", "prototype") }

func (d *dice) parts() string {
	return d.pick("value: 1", "value: 2, writable: true", "get: f", "set: f, get: undefined", "set: undefined", "configurable: false", "configurable: true", "value: 1, enumerable: true, configurable: true", "writable: false")
}

func (d *dice) last() string {
	return d.pick("", "a;", "f;", "throw a;", "throw f;", "throw 'x';", "null.a;", "q;", "1 / 0;", "a.name = 1; throw a;",
		"try { fails(); } catch (e) { e.name = "+d.literal()+"; throw e; }", "while (true) a = [a];", "while (true) ;", "(function r() { r(); })();")
}

func (d *dice) literal() string {
	return d.pick("0", "1", "'x'", "'y'", "true", "false", "null", "undefined", "[]", "{}", "['x']", "['x', 'x']", "['x', 'y', 'length', 'prototype']")
}

func (d *dice) target() string {
	return d.pick("{}", "{x: 1}", "{x: 1, get y() { return this; }}", "{set y(v) { this.x = v; }}", "[1, 2]", "function (x) { return x; }", "Object.create({x: 1})", "Object.freeze({x: 1, y: 2})", "Object.seal({x: 1})", "print")
}

func (d *dice) proxy(target string) string {
	if d.roll(6) == 0 {
		return "new Proxy(" + target + ", new Proxy({}, {get: function (t, k) { print(k); }}))"
	}
	var l []string
	for range d.roll(8) {
		trap := d.trap()
		l = append(l, trap+": "+d.handler(trap))
	}
	return "new Proxy(" + target + ", {" + strings.Join(l, ", ") + "})"
}

func (d *dice) trap() string {
	return d.pick("getPrototypeOf", "setPrototypeOf", "isExtensible", "preventExtensions", "getOwnPropertyDescriptor", "defineProperty", "has", "get", "set", "deleteProperty", "ownKeys", "apply", "construct")
}

func (d *dice) handler(trap string) string {
	honest, lie := "Reflect."+trap+"(t, k, v)", d.lie(trap)
	switch d.roll(8) {
	case 0:
		return "Reflect." + trap
	case 1:
		return "Reflect." + d.trap()
	case 2:
		return "function (t, k, v) { return " + lie + "; }"
	case 3:
		return "function (t, k, v) { " + d.pick("Object.freeze(t);", "Object.seal(t);", "delete t.x;", "t.x = 1;", "Reflect.preventExtensions(t);", "Reflect.setPrototypeOf(t, null);") + " return " + d.pick(honest, lie) + "; }"
	}
	return "function (t, k, v) { return lying ? (" + lie + ") : " + honest + "; }"
}

// lie is a result that a handler may not be allowed to have.
func (d *dice) lie(trap string) string {
	if d.roll(3) == 0 {
		return d.pick(d.literal(), "t", "k", "Reflect."+d.trap()+"(t, k, v)")
	}
	switch trap {
	case "getPrototypeOf":
		return d.pick("null", "{}", "t")
	case "ownKeys":
		return d.pick("[]", "['x']", "['y']", "['x', 'y']", "['x', 'x']", "['x', 'length', 'prototype']")
	case "getOwnPropertyDescriptor":
		return d.pick("undefined", "{"+d.parts()+"}")
	case "get":
		return d.literal()
	}
	return d.pick("true", "false")
}

func (d *dice) use() string {
	o, k := d.pick("a", "b", "b", "b", "c", "d"), d.key()
	switch d.roll(19) {
	case 0:
		return o + " = " + d.proxy(d.pick("a", "b", "c", "d", "f")) + ";"
	case 1, 2:
		return o + "." + k + ";"
	case 3, 16:
		return o + "." + k + " = " + d.literal() + ";"
	case 4, 17:
		return "delete " + o + "." + k + ";"
	case 5, 18:
		return "'" + k + "' in " + o + ";"
	case 6:
		return o + "(" + d.literal() + ");"
	case 7:
		return "new " + o + "(" + d.literal() + ", 2);"
	case 8, 9:
		return "Object." + d.pick("keys", "freeze", "seal", "isFrozen", "isSealed", "create") + "(" + o + ");"
	case 10, 11:
		return "Reflect." + d.pick("getPrototypeOf", "isExtensible", "preventExtensions", "ownKeys") + "(" + o + ");"
	case 12:
		return "Reflect.setPrototypeOf(" + o + ", " + d.pick("null", "a", "b", "d", "f") + ");"
	case 13:
		return "Reflect.defineProperty(" + o + ", '" + k + "', {" + d.parts() + "});"
	case 14:
		return "f.call(" + o + ", " + d.literal() + ", 3);"
	}
	return "Reflect.getOwnPropertyDescriptor(" + o + ", '" + k + "');"
}

// bounds are such that about half of the programs have enough.
func (d *dice) bounds() api.Bounds {
	b := api.Bounds{Fuel: 3000, Room: 300, Deep: 30}
	switch d.roll(6) {
	case 0:
		b.Fuel = d.roll(500)
	case 1:
		b.Room = built + d.roll(40)
	case 2:
		b.Deep = d.roll(8)
	}
	return b
}

// expected is the outcome of a source, and its log, as chapter 21 has them,
// sentence by sentence.
func expected(b []byte, bounds api.Bounds) (api.Outcome, []api.Seen) {
	n, at, e := parse.Parse(b)
	switch e {
	case api.ErrSyntax, api.ErrLong:
		return api.Outcome{Tag: api.OSyntax, At: at}, nil
	case api.ErrDeep:
		return api.Outcome{Tag: api.ODeep, At: at}, nil
	}
	if early.Check(n) != api.OK {
		return api.Outcome{Tag: api.OSyntax, At: 0}, nil
	}
	m := eval.New(bounds)
	r := m.Run(n)
	o, v := api.Outcome{Out: m.Out()}, r.Value
	if r.Flow == api.NoFuel {
		o.Tag = api.OFuel
	} else if r.Flow == api.NoRoom {
		o.Tag = api.ORoom
	} else if r.Flow == api.TooDeep {
		o.Tag = api.ODeep
	} else {
		o.Shown = values.Show(v, m.World().Calls(v))
	}
	if r.Flow == api.Threw {
		o.Tag = api.OThrow
		x, is := m.World().Heap.Get(v.Num)
		for _, p := range x.Props {
			if is && v.Kind == api.Object && x.Kind == api.Error && p.Key == (api.Key{Str: "name"}) && p.Desc.HasValue && p.Desc.Value.Kind == api.String {
				o.Shown = p.Desc.Value.Str
			}
		}
	}
	return o, m.World().Log()
}

func sameLog(l, m []api.Seen) bool {
	return slices.EqualFunc(l, m, func(a, b api.Seen) bool { return reflect.DeepEqual(a, b) })
}

// TestProgramsMadeByChance have the outcomes that chapter 21 says, and logs
// without violations.
func TestProgramsMadeByChance(t *testing.T) {
	d, ends, lies := dice(21), map[int]int{}, 0
	for range 1800 {
		source, b := d.program(), d.bounds()
		want, log := expected([]byte(source), b)
		got, seen := Run([]byte(source), b), Seen([]byte(source), b)
		if show(got) != show(want) {
			t.Fatalf("P2101: with %+v %s, want %s:\n%s", b, tell(got), tell(want), source)
		}
		if !sameLog(seen, log) {
			t.Fatalf("P2101: with %+v Seen is not the log:\n%s", b, source)
		}
		if at := firstViolation(seen); at >= 0 {
			t.Fatalf("P2102: with %+v the element %d of the log, %+v, violates an invariant:\n%s", b, at, seen[at], source)
		}
		ends[got.Tag]++
		if slices.Contains(got.Out, `"object" object`) {
			lies++
		}
	}
	for _, tag := range []int{api.OValue, api.OThrow, api.OFuel, api.ORoom, api.ODeep} {
		if ends[tag] < 50 {
			t.Errorf("%d programs end with the tag %d", ends[tag], tag)
		}
	}
	if lies < 500 {
		t.Errorf("%d programs throw errors", lies)
	}
}

// TestGreaterBounds: P2102 and W3, greater bounds change no outcome that none
// has caused, and nothing that was printed.
func TestGreaterBounds(t *testing.T) {
	d, kept := dice(3), 0
	for range 1500 {
		source, small := d.program(), d.bounds()
		great := api.Bounds{Fuel: small.Fuel + d.roll(1000), Room: small.Room + d.roll(100), Deep: small.Deep + d.roll(20)}
		one, two := Run([]byte(source), small), Run([]byte(source), great)
		if one.Tag == api.OValue || one.Tag == api.OThrow {
			kept++
			if show(one) != show(two) {
				t.Fatalf("P2102: with %+v %s, with %+v %s:\n%s", small, tell(one), great, tell(two), source)
			}
		} else if !isPrefix(one.Out, two.Out) {
			t.Fatalf("W3: with %+v %q, with %+v %q:\n%s", small, one.Out, great, two.Out, source)
		}
	}
	if kept < 300 {
		t.Errorf("%d programs had enough", kept)
	}
}

// TestDamagedSources: a program from which something was cut, or into which
// something was put, has the outcome of what it has become.
func TestDamagedSources(t *testing.T) {
	d, ends := dice(8), map[int]int{}
	for range 4000 {
		b := []byte(d.program())
		for range 1 + d.roll(2) {
			at := d.roll(len(b))
			switch d.roll(5) {
			case 0:
				b = slices.Delete(b, at, at+1)
			case 1:
				b = slices.Insert(b, at, byte(d.roll(256)))
			case 2:
				b = slices.Insert(b, at, []byte(d.pick(" return ", " break;", ";", "{", "}", "(", "let a;", strings.Repeat("!", 99), strings.Repeat("{", 99), "'", "/*", "0"))...)
			case 3:
				b = b[:at+1]
			case 4:
				b = append(b, d.pick("return;", "continue;", "let a;", "if (a) let a;", "{ let a; }")...)
			}
		}
		bounds := d.bounds()
		want, log := expected(b, bounds)
		got := Run(b, bounds)
		if show(got) != show(want) || !sameLog(Seen(b, bounds), log) {
			t.Fatalf("P2101: with %+v %s, want %s:\n%q", bounds, tell(got), tell(want), b)
		}
		if got.Tag == api.OSyntax && got.At == 0 {
			ends[-1]++
		}
		if got.Tag == api.ODeep && got.At > 0 {
			ends[-2]++
		}
		ends[got.Tag]++
	}
	for _, end := range []int{-2, -1, api.OValue, api.OThrow, api.OSyntax} {
		if ends[end] < 20 {
			t.Errorf("%d sources end with the tag %d", ends[end], end)
		}
	}
}

// TestBytesMadeByChance: whatever the bytes and the bounds are, there is an
// outcome.
func TestBytesMadeByChance(t *testing.T) {
	d := dice(5)
	for range 3000 {
		b := make([]byte, d.roll(30))
		for i := range b {
			b[i] = "a1 ;{}()[]=!.,'\"\\/*\n+-<\xe9\x80\x00"[d.roll(26)]
		}
		bounds := api.Bounds{Fuel: d.roll(100) - 10, Room: d.roll(60) - 10, Deep: d.roll(10) - 3}
		want, log := expected(b, bounds)
		if got := Run(b, bounds); show(got) != show(want) || !sameLog(Seen(b, bounds), log) {
			t.Fatalf("P2101: %q gives %s, want %s", b, tell(got), tell(want))
		}
	}
}
