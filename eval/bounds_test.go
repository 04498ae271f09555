package eval

import (
	"fmt"
	"slices"
	"strings"
	"testing"

	"understudy/api"
)

// examples have every kind of statement and expression at least once.
func examples() []string {
	var l []string
	for _, row := range rows(`
		let a = 1; const b = "x"; function f(n) { if (n) return f(n - 1); else return; } f(2); a + b;
		let i = 0; while (i < 3) { i = i + 1; if (i === 2) continue; if (i > 2) break; ; } i;
		try { throw 1; } catch (e) { try { null.a; } finally { e = 2; } } finally { let c = 5; }
		try { try { throw {a: 1}; } catch (e) { e.b = 2; throw e; } finally { print(1); } } catch (e) { print(e.a, e.b); }
		function f() { try { return 1; } finally { print(2); } } function g() { while (true) try { break; } finally { } } [f(), g()];
		({a: 1, ["b" + 1]: [null, undefined, true, false], get c() { return this.a; }, set c(v) { this.a = v; }}).c;
		let o = {f: function () { return this; }}; o.f().f(); o["f"](); delete o.f; "f" in o; typeof o; typeof p;
		function C(x) { this.x = x; } C.prototype.m = function () { return this.x; }; let c = new C(3); c.m() + new C(4).m();
		let p = new Proxy({}, {get: function (t, k, r) { return k; }, has: function () { return true; }, set: function () { return true; }}); p.a + p.b; p.c = 1; "a" in p;
		let r = Proxy.revocable(function () { return 5; }, {}); r.proxy(); r.revoke(); try { r.proxy(); } catch (e) { print(e.name); }
		!1 || -2 && 3; 1 ? 2 : 3; 0 ? 2 : 3; "a" < "b"; 3 % 2; (function g(n) { return n ? g(n - 1) : 0; })(3);
		let l = []; l[2] = 1; l.length = 1; Object.keys(l); Object.freeze(l); try { l[0] = 1; } catch (e) { e.name; }
		let b = (function (a, b) { return [this, a, b]; }).bind(1, 2); b(3); b.call(0, 4); Reflect.apply(b, 0, [5]); new b(6);
		a;
		throw 1;
		let x = 5; x = null.y;`, "=>") {
		l = append(l, row[0])
	}
	return l
}

// whole executes a program with plenty of everything, and returns how, and how
// much of each it needs.
func whole(t *testing.T, source string) (api.Reply, api.Bounds) {
	t.Helper()
	r := agree(t, plenty(), source)[0]
	m := fresh(t)
	m.run(source)
	_, deepest := m.World().Left()
	return r, api.Bounds{Fuel: m.spent(), Room: m.World().Heap.Len(), Deep: deepest}
}

// TestEveryBound: where a bound is less than what a program needs, this ends
// it, at the same point as the model.
func TestEveryBound(t *testing.T) {
	for _, s := range examples() {
		r, need := whole(t, s)
		if got := agree(t, need, s)[0]; show(got) != show(r) {
			t.Errorf("W3: %s with just enough gives %+v, want %+v", s, got, r)
		}
		for fuel := range need.Fuel {
			if got := agree(t, api.Bounds{Fuel: fuel, Room: need.Room, Deep: need.Deep}, s)[0]; show(got) != show(api.Reply{Flow: api.NoFuel}) {
				t.Errorf("W3: %s with fuel %d of %d gives %+v", s, fuel, need.Fuel, got)
			}
		}
		for room := range need.Room {
			if got := agree(t, api.Bounds{Fuel: need.Fuel, Room: room, Deep: need.Deep}, s)[0]; show(got) != show(api.Reply{Flow: api.NoRoom}) {
				t.Errorf("W3: %s with room %d of %d gives %+v", s, room, need.Room, got)
			}
		}
		for deep := range need.Deep {
			if got := agree(t, api.Bounds{Fuel: need.Fuel, Room: need.Room, Deep: deep}, s)[0]; show(got) != show(api.Reply{Flow: api.TooDeep}) {
				t.Errorf("W3: %s with depth %d of %d gives %+v", s, deep, need.Deep, got)
			}
		}
	}
}

// TestGreaterBounds do not change an outcome that none has caused, nor what was
// printed.
func TestGreaterBounds(t *testing.T) {
	d := dice(3)
	for range 300 {
		m := &maker{dice: &d}
		source := m.program()
		small := api.Bounds{Fuel: 100 + m.roll(1000), Room: built + m.roll(100), Deep: m.roll(20)}
		great := api.Bounds{Fuel: small.Fuel + m.roll(1000), Room: small.Room + m.roll(100), Deep: small.Deep + m.roll(20)}
		one, two := New(small), New(great)
		r, q := one.Run(tree(t, source)), two.Run(tree(t, source))
		if r.Flow == api.Done || r.Flow == api.Threw {
			if show(r) != show(q) || !slices.Equal(one.Out(), two.Out()) {
				t.Fatalf("W3: with %+v %+v, with %+v %+v:\n%s", small, r, great, q, source)
			}
		} else if !strings.HasPrefix(strings.Join(two.Out(), "\n"), strings.Join(one.Out(), "\n")) {
			t.Fatalf("W3: with %+v %q, with %+v %q:\n%s", small, one.Out(), great, two.Out(), source)
		}
	}
}

// TestDeepCalls: the depth is limited to 1000, and functions can be called as
// deep as that.
func TestDeepCalls(t *testing.T) {
	for _, x := range []struct {
		deep, calls int
		want        string
	}{{5000, 999, "999"}, {5000, 1000, "TooDeep"}, {100, 99, "99"}, {100, 100, "TooDeep"}, {0, 0, "TooDeep"}, {-3, 0, "TooDeep"}, {1, 0, "0"}} {
		m := machine{New(api.Bounds{Fuel: 100000, Room: 100, Deep: x.deep}), t}
		source := fmt.Sprintf("function f(n) { return n && f(n - 1) + 1; } f(%d);", x.calls)
		if got := m.tell(m.run(source)); got != x.want {
			t.Errorf("W3: with depth %d %d calls give %s, want %s", x.deep, x.calls, got, x.want)
		}
	}
}
