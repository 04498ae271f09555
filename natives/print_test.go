package natives

import (
	"slices"
	"strings"
	"testing"

	"understudy/api"
	"understudy/values"
)

// prints checks that CPrint adds a line.
func (w world) prints(want string, args ...api.Value) {
	w.t.Helper()
	before := slices.Clone(w.n.Out)
	w.quiet(undefined, api.CPrint, undefined, args...)
	if lines := append(before, want); !slices.Equal(w.n.Out, lines) {
		w.t.Fatalf("%s: Out is %q, want %q", describe(api.CPrint, undefined, args), w.n.Out, lines)
	}
}

func TestPrint(t *testing.T) {
	w := newWorld(t)
	w.prints("")
	w.prints("undefined", undefined)
	w.prints("null", null)
	w.prints("true false", yes, no)
	w.prints("0 -7 9007199254740991", number(0), number(-7), number(1<<53-1))
	w.prints(`"" "a b" "\u000a\u0022\u005c"`, str(""), str("a b"), str("\n\"\\"))
	w.prints(`"\ud83d\ude00" "\ud83d"`, str("\U0001F600"), str("\xed\xa0\xbd"))
	w.prints("symbol symbol", symbol(1), symbol(2))
	w.prints("")
	w.prints(" ", api.Value{Kind: 7}, api.Value{Kind: -1})
	w.prints("undefined undefined undefined", undefined, undefined, undefined)
	for _, x := range w.targets() {
		want := "object"
		if x.calls {
			want = "function"
		}
		w.prints(want, x.v)
		w.prints("1 "+want+` "x"`, number(1), x.v, str("x"))
	}
	w.prints("object object", obj(-1), obj(999))
	if len(w.Log()) != 0 {
		t.Error("P1801: CPrint performs methods")
	}
}

// TestPrintMuch: each argument is shown as package values shows it, and nothing
// is left out.
func TestPrintMuch(t *testing.T) {
	w := newWorld(t)
	all := append(simple(), str(strings.Repeat("x", api.MaxUnits)), w.class(), w.plain(null))
	var args []api.Value
	var shown []string
	for i := range 1000 {
		v := all[i%len(all)]
		args = append(args, v)
		shown = append(shown, values.Show(v, w.Calls(v)))
	}
	w.prints(strings.Join(shown, " "), args...)
	w.n.Out = nil
	for i := range 20000 {
		w.call(api.CPrint, undefined, number(i))
	}
	if n := len(w.n.Out); n != 20000 || w.n.Out[0] != "0" || w.n.Out[12345] != "12345" || w.n.Out[n-1] != "19999" {
		t.Errorf("P1801: 20000 lines become %d", n)
	}
}

// TestOut: the lines are those of the Natives, whatever the world is, and only
// CPrint adds any.
func TestOut(t *testing.T) {
	w, other := newWorld(t), newWorld(t)
	n := &Natives{Out: []string{"before"}}
	f := function(api.CPrint)
	for _, x := range []world{w, other, w} {
		n.Call(x.World, f, undefined, list(yes))
		n.Call(nil, f, undefined, list(obj(0)))
	}
	if want := strings.Fields("before true object true object true object"); !slices.Equal(n.Out, want) {
		t.Errorf("P1801: Out is %q, want %q", n.Out, want)
	}
	if len(w.n.Out) != 0 || len(other.n.Out) != 0 {
		t.Error("P1802: another one's Out has lines")
	}
	for _, code := range codes() {
		if code == api.CPrint {
			continue
		}
		for i := range w.goodCalls(code) {
			x := newWorld(t)
			x.n.Out = []string{"only"}
			c := x.goodCalls(code)[i]
			x.n.Call(x.World, c.f, c.this, c.args)
			if !slices.Equal(x.n.Out, []string{"only"}) {
				t.Errorf("%s: Out is %q", describe(code, c.this, c.args), x.n.Out)
			}
		}
	}
}

// TestPrintByTraps: lines are added in the order in which they are printed, and
// remain whatever becomes of the call that made them.
func TestPrintByTraps(t *testing.T) {
	w := newWorld(t)
	print := w.function(api.CPrint, 0, undefined)
	p := w.proxy(w.plain(null, field("a", yes, "wec")), w.plain(null, field("has", print, ""), field("deleteProperty", print, ""), field("ownKeys", print, "")))
	w.does("P1801: has", w.call(api.CReflect+api.MHas, undefined, p, str("a")), no)
	w.does("P1801: deleteProperty", w.call(api.CReflect+api.MDelete, undefined, p, str("a")), no)
	w.fails("P1801: ownKeys", w.call(api.CKeys, undefined, p), "TypeError")
	if want := []string{`object "a"`, `object "a"`, "object"}; !slices.Equal(w.n.Out, want) {
		t.Errorf("P1801: Out is %q, want %q", w.n.Out, want)
	}
}

// TestSymbol: symbols are numbered by the heap, each world's on its own.
func TestSymbol(t *testing.T) {
	w, other := newWorld(t), newWorld(t)
	for i := 1; i <= 5; i++ {
		w.quiet(symbol(2*i-1), api.CSymbol, undefined)
		if n := w.Heap.Symbol(); n != 2*i {
			t.Errorf("P1801: the heap's symbol is %d, want %d", n, 2*i)
		}
		w.n.Call(nil, function(api.CSymbol), undefined, nil)
	}
	other.quiet(symbol(1), api.CSymbol, undefined, str("name"), symbol(9))
	w.quiet(symbol(11), api.CSymbol, symbol(3), symbol(3))
	other.quiet(symbol(2), api.CSymbol, null, undefined)
}
